/- law DotLaws. -/
import Derived.Test.YtdcmoeklldkccaaDotBox
import Derived.Test.YtdcmoeklldkccaaDotLk
import Derived.Test.YtdcmoeklldkccaaFlow
import Derived.Test.YtdcmoeklldkccaaAppZ
namespace Go.Proofs.Ytdcmoeklldkccaa
open Go Go.RowKit Go.ChangeShapes cl Go.Sort

theorem dm.Is.le {c : dm.Ctx} {S : Dot → Prop} {m k : Nat} (h : dm.Is c S m) (hk : m ≤ k) : dm.Is c S k := ⟨h.right, h.know, h.len1, Nat.le_trans h.len2 hk⟩
theorem KB.get {W0 : World} {b : Nat} {a1 : Option Addr} {n1 c1 : Nat} {a2 : Option Addr} {n2 c2 : Nat} {c : dm.Ctx} (h : KB W0 b a1 n1 c1 a2 n2 c2 c) (W : World) (hW : Below W0.heap.size W0 W) : CBox W b a1 n1 c1 a2 n2 c2 c := h W hW
theorem KB.join {W0 : World} {b b' : Nat} {a1 a1' : Option Addr} {n1 c1 n1' c1' : Nat} {a2 a2' : Option Addr} {n2 c2 n2' c2' : Nat} {c c' : dm.Ctx} {S S' : Dot → Prop} {m m' : Nat} (h : KB W0 b a1 n1 c1 a2 n2 c2 c) (h' : KB W0 b' a1' n1' c1' a2' n2' c2' c')
    (hs : dm.Is c S m) (hs' : dm.Is c' S' m') (hm : m ≤ 400) (hm' : m' ≤ 400) (W : World) (hW : Below W0.heap.size W0 W) :
    Calls Try.prog 22 #[.agg #[.slice a1 n1 c1, .slice a2 n2 c2], .agg #[.slice a1' n1' c1', .slice a2' n2' c2']] W (CtxP (fun e => dm.Knows c e ∨ dm.Knows c' e) (m + m') W) := by
  have l1 := hs.len2
  have l2 := hs'.len2
  refine (join_yes c c' _ _ W (h W hW).ctx (h' W hW).ctx hs.right hs'.right (by omega) (by omega)).mono ?_
  rintro e w' ⟨v, cc, rfl, h1, h2, h3⟩
  exact ⟨v, cc, rfl, h1, ⟨h2.right, h2.know, h2.len1, by have := h2.len2; omega⟩, h3⟩
set_option maxHeartbeats 8000000 in
set_option maxRecDepth 100000 in
theorem laws_law (l m n : List Dot) (vl vm vn : Value) (w : World) (hl : Dots w w.heap.size vl l) (hm : Dots w w.heap.size vm m) (hn : Dots w w.heap.size vn n) :
    Calls Try.prog 7 #[vl, vm, vn] w (Said true w) := by
  obtain ⟨nl, hnl⟩ : ∃ q, q = l.length := ⟨_, rfl⟩
  obtain ⟨aol, cpl, rfl⟩ : ∃ ao cap, vl = .slice ao nl cap := by
    obtain ⟨ao, cap, e, _⟩ := hl.form
    exact ⟨ao, cap, by rw [hnl]; exact e⟩
  have hfl : nl ≤ 9223372036854775807 := by
    obtain ⟨_, _, e, _, h9⟩ := hl.form
    rw [hnl]; unfold maxLen at h9; exact h9
  have HNl := Lib.hid hnl
  have HDl : Hid (∀ W, Below w.heap.size w W → Dots W W.heap.size (.slice aol nl cpl) l) := fun W hW => (hl.below hW).mono hW.size
  clear hnl hl
  obtain ⟨nm, hnm⟩ : ∃ q, q = m.length := ⟨_, rfl⟩
  obtain ⟨aom, cpm, rfl⟩ : ∃ ao cap, vm = .slice ao nm cap := by
    obtain ⟨ao, cap, e, _⟩ := hm.form
    exact ⟨ao, cap, by rw [hnm]; exact e⟩
  have hfm : nm ≤ 9223372036854775807 := by
    obtain ⟨_, _, e, _, h9⟩ := hm.form
    rw [hnm]; unfold maxLen at h9; exact h9
  have HNm := Lib.hid hnm
  have HDm : Hid (∀ W, Below w.heap.size w W → Dots W W.heap.size (.slice aom nm cpm) m) := fun W hW => (hm.below hW).mono hW.size
  clear hnm hm
  obtain ⟨nn, hnn⟩ : ∃ q, q = n.length := ⟨_, rfl⟩
  obtain ⟨aon, cpn, rfl⟩ : ∃ ao cap, vn = .slice ao nn cap := by
    obtain ⟨ao, cap, e, _⟩ := hn.form
    exact ⟨ao, cap, by rw [hnn]; exact e⟩
  have hfn : nn ≤ 9223372036854775807 := by
    obtain ⟨_, _, e, _, h9⟩ := hn.form
    rw [hnn]; unfold maxLen at h9; exact h9
  have HNn := Lib.hid hnn
  have HDn : Hid (∀ W, Below w.heap.size w W → Dots W W.heap.size (.slice aon nn cpn) n) := fun W hW => (hn.below hW).mono hW.size
  clear hnn hn
  have HAW : Hid (∀ W, Calls Try.prog 11 #[] W (Said true W)) := fun W => awake_any W
  by_cases cl : 40 < nl
  · have cl1 : (40 : Int) < (nl : Int) := by omega
    have cl2 : decide ((40 : Int) < (nl : Int)) = true := decide_eq_true cl1
    go_enter Try.func7, Try.ntmps7
    go_wp2_with fail
    (with_reducible refine (HAW.out _).mono ?_)
    rintro e w1 ⟨rfl, b1⟩
    go_wp2
    go_ret
    exact ⟨rfl, b1⟩
  have cl1 : ¬ (40 : Int) < (nl : Int) := by omega
  have cl2 : decide ((40 : Int) < (nl : Int)) = false := decide_eq_false cl1
  by_cases cm : 40 < nm
  · have cm1 : (40 : Int) < (nm : Int) := by omega
    have cm2 : decide ((40 : Int) < (nm : Int)) = true := decide_eq_true cm1
    go_enter Try.func7, Try.ntmps7
    go_wp2_with fail
    (with_reducible refine (HAW.out _).mono ?_)
    rintro e w1 ⟨rfl, b1⟩
    go_wp2
    go_ret
    exact ⟨rfl, b1⟩
  have cm1 : ¬ (40 : Int) < (nm : Int) := by omega
  have cm2 : decide ((40 : Int) < (nm : Int)) = false := decide_eq_false cm1
  by_cases cn : 40 < nn
  · have cn1 : (40 : Int) < (nn : Int) := by omega
    have cn2 : decide ((40 : Int) < (nn : Int)) = true := decide_eq_true cn1
    go_enter Try.func7, Try.ntmps7
    go_wp2_with fail
    (with_reducible refine (HAW.out _).mono ?_)
    rintro e w1 ⟨rfl, b1⟩
    go_wp2
    go_ret
    exact ⟨rfl, b1⟩
  have cn1 : ¬ (40 : Int) < (nn : Int) := by omega
  have cn2 : decide ((40 : Int) < (nn : Int)) = false := decide_eq_false cn1
  go_enter Try.func7, Try.ntmps7
  have HF0 := Lib.hid (from_says HDl.out (by have := HNl.out; omega) w (Below.refl _ _))
  go_wp2_with fail
  (with_reducible refine HF0.out.mono ?_)
  rintro e w1 ⟨p01, p02, p03, p04, p05, p06, a, rfl, hc0, his0, hb0⟩
  have HI0 := Lib.hid his0
  have B1 := hb0
  clear his0 HF0
  have HF1 := Lib.hid (from_says HDm.out (by have := HNm.out; omega) w1 B1)
  go_wp2_with fail
  (with_reducible refine HF1.out.mono ?_)
  rintro e w2 ⟨p11, p12, p13, p14, p15, p16, b, rfl, hc1, his1, hb1⟩
  have HI1 := Lib.hid his1
  have B2 := B1.trans (hb1.mono B1.size)
  have hc0 := hc0.next hb1
  clear his1 HF1 hb1
  have HF2 := Lib.hid (from_says HDn.out (by have := HNn.out; omega) w2 B2)
  go_wp2_with fail
  (with_reducible refine HF2.out.mono ?_)
  rintro e w3 ⟨p21, p22, p23, p24, p25, p26, c, rfl, hc2, his2, hb2⟩
  have HI2 := Lib.hid his2
  have B3 := B2.trans (hb2.mono B2.size)
  have hc0 := hc0.next hb2
  have hc1 := hc1.next hb2
  clear his2 HF2 hb2
  obtain ⟨W0, hW0⟩ : ∃ W, W = ((w3.alloc (.cells #[.slice p01 p02 p03, .slice p04 p05 p06] 24)).alloc (.cells #[.slice p11 p12 p13, .slice p14 p15 p16] 24)).alloc (.cells #[.slice p21 p22 p23, .slice p24 p25 p26] 24) := ⟨_, rfl⟩
  have s1 : (w3.alloc (.cells #[.slice p01 p02 p03, .slice p04 p05 p06] 24)).heap.size = w3.heap.size + 1 := World.size_alloc _ _
  have s2 : ((w3.alloc (.cells #[.slice p01 p02 p03, .slice p04 p05 p06] 24)).alloc (.cells #[.slice p11 p12 p13, .slice p14 p15 p16] 24)).heap.size = w3.heap.size + 1 + 1 := by rw [World.size_alloc, s1]
  have k1 : Below w3.heap.size w3 (w3.alloc (.cells #[.slice p01 p02 p03, .slice p04 p05 p06] 24)) := ctx_below
  have k2 : Below (w3.alloc (.cells #[.slice p01 p02 p03, .slice p04 p05 p06] 24)).heap.size (w3.alloc (.cells #[.slice p01 p02 p03, .slice p04 p05 p06] 24)) ((w3.alloc (.cells #[.slice p01 p02 p03, .slice p04 p05 p06] 24)).alloc (.cells #[.slice p11 p12 p13, .slice p14 p15 p16] 24)) := ctx_below
  have k3 : Below ((w3.alloc (.cells #[.slice p01 p02 p03, .slice p04 p05 p06] 24)).alloc (.cells #[.slice p11 p12 p13, .slice p14 p15 p16] 24)).heap.size ((w3.alloc (.cells #[.slice p01 p02 p03, .slice p04 p05 p06] 24)).alloc (.cells #[.slice p11 p12 p13, .slice p14 p15 p16] 24)) (((w3.alloc (.cells #[.slice p01 p02 p03, .slice p04 p05 p06] 24)).alloc (.cells #[.slice p11 p12 p13, .slice p14 p15 p16] 24)).alloc (.cells #[.slice p21 p22 p23, .slice p24 p25 p26] 24)) := ctx_below
  have X0 : Hid (KB W0 w3.heap.size p01 p02 p03 p04 p05 p06 a) := by rw [hW0]; exact KB.mk (((CBox.mk' hc0 rfl).next k2).next k3)
  have X1 : Hid (KB W0 (w3.heap.size + 1) p11 p12 p13 p14 p15 p16 b) := by rw [hW0]; exact KB.mk ((CBox.mk' (hc1.next k1) s1.symm).next k3)
  have X2 : Hid (KB W0 (w3.heap.size + 1 + 1) p21 p22 p23 p24 p25 p26 c) := by rw [hW0]; exact KB.mk (CBox.mk' ((hc2.next k1).next k2) s2.symm)
  have E0 : Below w.heap.size w W0 := by rw [hW0]; exact B3.trans ((k1.trans (k2.trans (k3.mono (by omega)) |>.mono (by omega))).mono B3.size)
  have D : Below W0.heap.size W0 W0 := Below.refl _ _
  have HW0 := Lib.hid hW0
  clear hW0 s1 s2 k1 k2 k3 hc0 hc1 hc2 B1 B2 B3
  have JAB := Lib.hid (X0.out.join X1.out HI0.out HI1.out (by omega) (by omega) W0 D)
  obtain ⟨x0, y0, _, _⟩ := X0.out _ D
  obtain ⟨x1, y1, _, _⟩ := X1.out _ D
  have hq0 : w3.heap.size < W0.heap.size := (X0.out _ D).lt
  go_wp2_with fail
  rw [← HW0.out]
  (with_reducible refine JAB.out.mono ?_)
  rintro e w4 ⟨v4, ab, rfl, hc4, hs4, b4⟩
  obtain ⟨p31, p32, p33, p34, p35, p36, rfl, hq1, hq2⟩ := hc4.form
  clear hq1 hq2
  obtain ⟨W1, hW1⟩ : ∃ W, W = w4.alloc (.cells #[.slice p31 p32 p33, .slice p34 p35 p36] 24) := ⟨_, rfl⟩
  have k4 : Below w4.heap.size w4 W1 := by rw [hW1]; exact ctx_below
  have E1 : Below W0.heap.size W0 W1 := b4.trans (k4.mono b4.size)
  have HIab := Lib.hid hs4
  have HIab2 : Hid (dm.Is ab (fun d => (valid d = true ∧ d ∈ l) ∨ (valid d = true ∧ d ∈ m)) 200) := ⟨HIab.out.right, fun d => by rw [HIab.out.know, HI0.out.know, HI1.out.know], HIab.out.len1, HIab.out.len2⟩
  have X3 : Hid (KB W1 w4.heap.size p31 p32 p33 p34 p35 p36 ab) := by rw [hW1]; exact KB.mk (CBox.mk' hc4 rfl)
  replace X0 := Lib.hid (X0.out.on E1)
  replace X1 := Lib.hid (X1.out.on E1)
  replace X2 := Lib.hid (X2.out.on E1)
  have EW := Lib.hid (E0.trans (E1.mono E0.size))
  have HW1 := Lib.hid hW1
  have SE1 : Hid (∀ e, (dm.Knows a e ∨ dm.Knows b e) ↔ (dm.Knows b e ∨ dm.Knows a e)) := fun e => Or.comm
  have SE2 : Hid (∀ e, (dm.Knows ab e ∨ dm.Knows c e) ↔ (dm.Knows a e ∨ (dm.Knows b e ∨ dm.Knows c e))) := fun e => by rw [HIab.out.know]; exact or_assoc
  have SE3 : Hid (∀ e, (dm.Knows a e ∨ dm.Knows a e) ↔ (valid e = true ∧ e ∈ l)) := fun e => by rw [or_self, HI0.out.know]
  have SE4 : Hid (∀ e, (dm.Knows ab e ∨ dm.Knows a e) ↔ (dm.Knows a e ∨ dm.Knows b e)) := fun e => by
    rw [HIab.out.know]
    constructor
    · rintro ((h | h) | h)
      · exact Or.inl h
      · exact Or.inr h
      · exact Or.inl h
    · exact Or.inl
  have SE5 : Hid (∀ e, (dm.Knows a e ∨ dm.Knows b e) ↔ (valid e = true ∧ e ∈ l ++ m)) := fun e => by
    rw [HI0.out.know, HI1.out.know, List.mem_append]
    constructor
    · rintro (⟨h1, h2⟩ | ⟨h1, h2⟩)
      · exact ⟨h1, Or.inl h2⟩
      · exact ⟨h1, Or.inr h2⟩
    · rintro ⟨h1, h2 | h2⟩
      · exact Or.inl ⟨h1, h2⟩
      · exact Or.inr ⟨h1, h2⟩
  have JN : Hid (∀ {b b' : Nat} {a1 a1' : Option Addr} {n1 c1 n1' c1' : Nat} {a2 a2' : Option Addr} {n2 c2 n2' c2' : Nat} {c c' : dm.Ctx} {S S' : Dot → Prop} {m m' : Nat} (_ : KB W1 b a1 n1 c1 a2 n2 c2 c) (_ : KB W1 b' a1' n1' c1' a2' n2' c2' c')
      (_ : dm.Is c S m) (_ : dm.Is c' S' m') (_ : m ≤ 400) (_ : m' ≤ 400) (W : World) (_ : Below W1.heap.size W1 W), Calls Try.prog 22 #[.agg #[.slice a1 n1 c1, .slice a2 n2 c2], .agg #[.slice a1' n1' c1', .slice a2' n2' c2']] W (CtxP (fun e => dm.Knows c e ∨ dm.Knows c' e) (m + m') W)) :=
    fun h h' hs hs' hm hm' W hW => h.join h' hs hs' hm hm' W hW
  have JL : Hid (∀ {b : Nat} {a1 : Option Addr} {n1 c1 : Nat} {a2 : Option Addr} {n2 c2 : Nat} {c : dm.Ctx} {S : Dot → Prop} (_ : KB W1 b a1 n1 c1 a2 n2 c2 c) (_ : dm.Is c S 100) (v : Value) (c' : dm.Ctx) (W : World) (_ : Below W1.heap.size W1 W) {S' : Dot → Prop} (_ : CtxAt W W.heap.size v c') (_ : dm.Is c' S' 20000),
      Calls Try.prog 22 #[.agg #[.slice a1 n1 c1, .slice a2 n2 c2], v] W (CtxP (fun e => dm.Knows c e ∨ S' e) 20100 W)) := fun {b a1 n1 c1 a2 n2 c2 c S} h hs v c' W hW {S'} h' hs' => by
    have l1 := hs.len2
    have l2 := hs'.len2
    refine (join_yes c c' _ _ W (h W hW).ctx h' hs.right hs'.right (by omega) (by omega)).mono ?_
    rintro e w' ⟨v, cc, rfl, h1, h2, h3⟩
    exact ⟨v, cc, rfl, h1, ⟨h2.right, fun d => by rw [h2.know, hs'.know], h2.len1, by have := h2.len2; omega⟩, h3⟩
  have SM : Hid (∀ (c c' : dm.Ctx) (v v' : Value) (W : World) {S S' : Dot → Prop} (k k' : Nat) (_ : CtxAt W W.heap.size v c) (_ : CtxAt W W.heap.size v' c') (_ : dm.Is c S k) (_ : dm.Is c' S' k') (_ : ∀ e, S e ↔ S' e), Calls Try.prog 25 #[v, v'] W (Said true W)) := fun c c' v v' W {S S'} k k' h h' hs hs' he => by
    have := csame_any c c' v v' W h h'
    rwa [decide_eq_true (hs.eq hs' he)] at this
  have RT : Hid (∀ W, Below W1.heap.size W1 W → Calls Try.prog 18 #[.agg #[.slice p31 p32 p33, .slice p34 p35 p36]] W (Said true W)) := fun W hW => by
    have := right_any ab _ W (X3.out W hW).ctx
    rwa [dm.rightB_true HIab.out.right] at this
  clear hW1 hs4 hc4 k4 b4 x0 y0 x1 y1 D
  go_wp2_with fail
  rw [← HW1.out]
  refine wp_flow 38 (fun _ => 1000) (fun ww => RowKit.Below W1.heap.size W1 ww) (fun _ w w' => (fun (w w' : World) => RowKit.Below w.heap.size w w') w w') (fun kF vF wF => match kF with | 0 => (vF = .agg #[.slice p31 p32 p33, .slice p34 p35 p36]) | 1 => (vF = .agg #[.slice p11 p12 p13, .slice p14 p15 p16]) | 2 => (vF = .agg #[.slice p01 p02 p03, .slice p04 p05 p06]) | 3 => (∃ cc, CtxAt wF wF.heap.size vF cc ∧ dm.Is cc (fun e => dm.Knows b e ∨ dm.Knows a e) 20000) | 4 => (vF = .bool true) | 5 => (vF = .bool false) | 6 => (vF = .bool false) | 7 => (vF = .agg #[.slice p31 p32 p33, .slice p34 p35 p36]) | 8 => (vF = .agg #[.slice p21 p22 p23, .slice p24 p25 p26]) | 9 => (∃ cc, CtxAt wF wF.heap.size vF cc ∧ dm.Is cc (fun e => dm.Knows ab e ∨ dm.Knows c e) 20000) | 10 => (vF = .agg #[.slice p01 p02 p03, .slice p04 p05 p06]) | 11 => (vF = .agg #[.slice p11 p12 p13, .slice p14 p15 p16]) | 12 => (vF = .agg #[.slice p21 p22 p23, .slice p24 p25 p26]) | 13 => (∃ cc, CtxAt wF wF.heap.size vF cc ∧ dm.Is cc (fun e => dm.Knows b e ∨ dm.Knows c e) 20000) | 14 => (∃ cc, CtxAt wF wF.heap.size vF cc ∧ dm.Is cc (fun e => dm.Knows a e ∨ (dm.Knows b e ∨ dm.Knows c e)) 30000) | 15 => (vF = .bool true) | 16 => (vF = .bool false) | 17 => (vF = .bool false) | 18 => (vF = .bool false) | 19 => (vF = .agg #[.slice p01 p02 p03, .slice p04 p05 p06]) | 20 => (vF = .agg #[.slice p01 p02 p03, .slice p04 p05 p06]) | 21 => (∃ cc, CtxAt wF wF.heap.size vF cc ∧ dm.Is cc (fun e => dm.Knows a e ∨ dm.Knows a e) 20000) | 22 => (vF = .agg #[.slice p01 p02 p03, .slice p04 p05 p06]) | 23 => (vF = .bool true) | 24 => (vF = .bool false) | 25 => (vF = .bool false) | 26 => (vF = .bool false) | 27 => (vF = .agg #[.slice p31 p32 p33, .slice p34 p35 p36]) | 28 => (vF = .agg #[.slice p01 p02 p03, .slice p04 p05 p06]) | 29 => (∃ cc, CtxAt wF wF.heap.size vF cc ∧ dm.Is cc (fun e => dm.Knows ab e ∨ dm.Knows a e) 20000) | 30 => (vF = .agg #[.slice p31 p32 p33, .slice p34 p35 p36]) | 31 => (vF = .bool true) | 32 => (vF = .bool false) | 33 => (vF = .bool false) | 34 => (vF = .bool false) | 35 => (vF = .agg #[.slice p31 p32 p33, .slice p34 p35 p36]) | 36 => (vF = .bool true) | 37 => (vF = .bool false) | _ => True) (fun _ _ _ _ => True) (by kernel_rfl) (by kernel_rfl) ?_ ?_ ?_ ?_ ?_
  · exact (Below.refl _ _).drew
  · intro iF wF1 wF2 hR hT; exact hR.trans (hT.mono hR.size)
  · intro kF hkF iF hiF hne hdd hanc hdan vF wF1 wF2 h hT
    rcases (by omega : kF = 0 ∨ kF = 1 ∨ kF = 2 ∨ kF = 3 ∨ kF = 4 ∨ kF = 5 ∨ kF = 6 ∨ kF = 7 ∨ kF = 8 ∨ kF = 9 ∨ kF = 10 ∨ kF = 11 ∨ kF = 12 ∨ kF = 13 ∨ kF = 14 ∨ kF = 15 ∨ kF = 16 ∨ kF = 17 ∨ kF = 18 ∨ kF = 19 ∨ kF = 20 ∨ kF = 21 ∨ kF = 22 ∨ kF = 23 ∨ kF = 24 ∨ kF = 25 ∨ kF = 26 ∨ kF = 27 ∨ kF = 28 ∨ kF = 29 ∨ kF = 30 ∨ kF = 31 ∨ kF = 32 ∨ kF = 33 ∨ kF = 34 ∨ kF = 35 ∨ kF = 36 ∨ kF = 37) with rfl | rfl | rfl | rfl | rfl | rfl | rfl | rfl | rfl | rfl | rfl | rfl | rfl | rfl | rfl | rfl | rfl | rfl | rfl | rfl | rfl | rfl | rfl | rfl | rfl | rfl | rfl | rfl | rfl | rfl | rfl | rfl | rfl | rfl | rfl | rfl | rfl | rfl
    · have h : (vF = .agg #[.slice p31 p32 p33, .slice p34 p35 p36]) := h
      show (vF = .agg #[.slice p31 p32 p33, .slice p34 p35 p36])
      have hT : (fun (w w' : World) => RowKit.Below w.heap.size w w') wF1 wF2 := hT
      simp only at hT
      exact h
    · have h : (vF = .agg #[.slice p11 p12 p13, .slice p14 p15 p16]) := h
      show (vF = .agg #[.slice p11 p12 p13, .slice p14 p15 p16])
      have hT : (fun (w w' : World) => RowKit.Below w.heap.size w w') wF1 wF2 := hT
      simp only at hT
      exact h
    · have h : (vF = .agg #[.slice p01 p02 p03, .slice p04 p05 p06]) := h
      show (vF = .agg #[.slice p01 p02 p03, .slice p04 p05 p06])
      have hT : (fun (w w' : World) => RowKit.Below w.heap.size w w') wF1 wF2 := hT
      simp only at hT
      exact h
    · have h : (∃ cc, CtxAt wF1 wF1.heap.size vF cc ∧ dm.Is cc (fun e => dm.Knows b e ∨ dm.Knows a e) 20000) := h
      show (∃ cc, CtxAt wF2 wF2.heap.size vF cc ∧ dm.Is cc (fun e => dm.Knows b e ∨ dm.Knows a e) 20000)
      have hT : (fun (w w' : World) => RowKit.Below w.heap.size w w') wF1 wF2 := hT
      simp only at hT
      obtain ⟨cc, h1, h2⟩ := h
      exact ⟨cc, h1.next hT, h2⟩
    · have h : (vF = .bool true) := h
      show (vF = .bool true)
      have hT : (fun (w w' : World) => RowKit.Below w.heap.size w w') wF1 wF2 := hT
      simp only at hT
      exact h
    · have h : (vF = .bool false) := h
      show (vF = .bool false)
      have hT : (fun (w w' : World) => RowKit.Below w.heap.size w w') wF1 wF2 := hT
      simp only at hT
      exact h
    · have h : (vF = .bool false) := h
      show (vF = .bool false)
      have hT : (fun (w w' : World) => RowKit.Below w.heap.size w w') wF1 wF2 := hT
      simp only at hT
      exact h
    · have h : (vF = .agg #[.slice p31 p32 p33, .slice p34 p35 p36]) := h
      show (vF = .agg #[.slice p31 p32 p33, .slice p34 p35 p36])
      have hT : (fun (w w' : World) => RowKit.Below w.heap.size w w') wF1 wF2 := hT
      simp only at hT
      exact h
    · have h : (vF = .agg #[.slice p21 p22 p23, .slice p24 p25 p26]) := h
      show (vF = .agg #[.slice p21 p22 p23, .slice p24 p25 p26])
      have hT : (fun (w w' : World) => RowKit.Below w.heap.size w w') wF1 wF2 := hT
      simp only at hT
      exact h
    · have h : (∃ cc, CtxAt wF1 wF1.heap.size vF cc ∧ dm.Is cc (fun e => dm.Knows ab e ∨ dm.Knows c e) 20000) := h
      show (∃ cc, CtxAt wF2 wF2.heap.size vF cc ∧ dm.Is cc (fun e => dm.Knows ab e ∨ dm.Knows c e) 20000)
      have hT : (fun (w w' : World) => RowKit.Below w.heap.size w w') wF1 wF2 := hT
      simp only at hT
      obtain ⟨cc, h1, h2⟩ := h
      exact ⟨cc, h1.next hT, h2⟩
    · have h : (vF = .agg #[.slice p01 p02 p03, .slice p04 p05 p06]) := h
      show (vF = .agg #[.slice p01 p02 p03, .slice p04 p05 p06])
      have hT : (fun (w w' : World) => RowKit.Below w.heap.size w w') wF1 wF2 := hT
      simp only at hT
      exact h
    · have h : (vF = .agg #[.slice p11 p12 p13, .slice p14 p15 p16]) := h
      show (vF = .agg #[.slice p11 p12 p13, .slice p14 p15 p16])
      have hT : (fun (w w' : World) => RowKit.Below w.heap.size w w') wF1 wF2 := hT
      simp only at hT
      exact h
    · have h : (vF = .agg #[.slice p21 p22 p23, .slice p24 p25 p26]) := h
      show (vF = .agg #[.slice p21 p22 p23, .slice p24 p25 p26])
      have hT : (fun (w w' : World) => RowKit.Below w.heap.size w w') wF1 wF2 := hT
      simp only at hT
      exact h
    · have h : (∃ cc, CtxAt wF1 wF1.heap.size vF cc ∧ dm.Is cc (fun e => dm.Knows b e ∨ dm.Knows c e) 20000) := h
      show (∃ cc, CtxAt wF2 wF2.heap.size vF cc ∧ dm.Is cc (fun e => dm.Knows b e ∨ dm.Knows c e) 20000)
      have hT : (fun (w w' : World) => RowKit.Below w.heap.size w w') wF1 wF2 := hT
      simp only at hT
      obtain ⟨cc, h1, h2⟩ := h
      exact ⟨cc, h1.next hT, h2⟩
    · have h : (∃ cc, CtxAt wF1 wF1.heap.size vF cc ∧ dm.Is cc (fun e => dm.Knows a e ∨ (dm.Knows b e ∨ dm.Knows c e)) 30000) := h
      show (∃ cc, CtxAt wF2 wF2.heap.size vF cc ∧ dm.Is cc (fun e => dm.Knows a e ∨ (dm.Knows b e ∨ dm.Knows c e)) 30000)
      have hT : (fun (w w' : World) => RowKit.Below w.heap.size w w') wF1 wF2 := hT
      simp only at hT
      obtain ⟨cc, h1, h2⟩ := h
      exact ⟨cc, h1.next hT, h2⟩
    · have h : (vF = .bool true) := h
      show (vF = .bool true)
      have hT : (fun (w w' : World) => RowKit.Below w.heap.size w w') wF1 wF2 := hT
      simp only at hT
      exact h
    · have h : (vF = .bool false) := h
      show (vF = .bool false)
      have hT : (fun (w w' : World) => RowKit.Below w.heap.size w w') wF1 wF2 := hT
      simp only at hT
      exact h
    · have h : (vF = .bool false) := h
      show (vF = .bool false)
      have hT : (fun (w w' : World) => RowKit.Below w.heap.size w w') wF1 wF2 := hT
      simp only at hT
      exact h
    · have h : (vF = .bool false) := h
      show (vF = .bool false)
      have hT : (fun (w w' : World) => RowKit.Below w.heap.size w w') wF1 wF2 := hT
      simp only at hT
      exact h
    · have h : (vF = .agg #[.slice p01 p02 p03, .slice p04 p05 p06]) := h
      show (vF = .agg #[.slice p01 p02 p03, .slice p04 p05 p06])
      have hT : (fun (w w' : World) => RowKit.Below w.heap.size w w') wF1 wF2 := hT
      simp only at hT
      exact h
    · have h : (vF = .agg #[.slice p01 p02 p03, .slice p04 p05 p06]) := h
      show (vF = .agg #[.slice p01 p02 p03, .slice p04 p05 p06])
      have hT : (fun (w w' : World) => RowKit.Below w.heap.size w w') wF1 wF2 := hT
      simp only at hT
      exact h
    · have h : (∃ cc, CtxAt wF1 wF1.heap.size vF cc ∧ dm.Is cc (fun e => dm.Knows a e ∨ dm.Knows a e) 20000) := h
      show (∃ cc, CtxAt wF2 wF2.heap.size vF cc ∧ dm.Is cc (fun e => dm.Knows a e ∨ dm.Knows a e) 20000)
      have hT : (fun (w w' : World) => RowKit.Below w.heap.size w w') wF1 wF2 := hT
      simp only at hT
      obtain ⟨cc, h1, h2⟩ := h
      exact ⟨cc, h1.next hT, h2⟩
    · have h : (vF = .agg #[.slice p01 p02 p03, .slice p04 p05 p06]) := h
      show (vF = .agg #[.slice p01 p02 p03, .slice p04 p05 p06])
      have hT : (fun (w w' : World) => RowKit.Below w.heap.size w w') wF1 wF2 := hT
      simp only at hT
      exact h
    · have h : (vF = .bool true) := h
      show (vF = .bool true)
      have hT : (fun (w w' : World) => RowKit.Below w.heap.size w w') wF1 wF2 := hT
      simp only at hT
      exact h
    · have h : (vF = .bool false) := h
      show (vF = .bool false)
      have hT : (fun (w w' : World) => RowKit.Below w.heap.size w w') wF1 wF2 := hT
      simp only at hT
      exact h
    · have h : (vF = .bool false) := h
      show (vF = .bool false)
      have hT : (fun (w w' : World) => RowKit.Below w.heap.size w w') wF1 wF2 := hT
      simp only at hT
      exact h
    · have h : (vF = .bool false) := h
      show (vF = .bool false)
      have hT : (fun (w w' : World) => RowKit.Below w.heap.size w w') wF1 wF2 := hT
      simp only at hT
      exact h
    · have h : (vF = .agg #[.slice p31 p32 p33, .slice p34 p35 p36]) := h
      show (vF = .agg #[.slice p31 p32 p33, .slice p34 p35 p36])
      have hT : (fun (w w' : World) => RowKit.Below w.heap.size w w') wF1 wF2 := hT
      simp only at hT
      exact h
    · have h : (vF = .agg #[.slice p01 p02 p03, .slice p04 p05 p06]) := h
      show (vF = .agg #[.slice p01 p02 p03, .slice p04 p05 p06])
      have hT : (fun (w w' : World) => RowKit.Below w.heap.size w w') wF1 wF2 := hT
      simp only at hT
      exact h
    · have h : (∃ cc, CtxAt wF1 wF1.heap.size vF cc ∧ dm.Is cc (fun e => dm.Knows ab e ∨ dm.Knows a e) 20000) := h
      show (∃ cc, CtxAt wF2 wF2.heap.size vF cc ∧ dm.Is cc (fun e => dm.Knows ab e ∨ dm.Knows a e) 20000)
      have hT : (fun (w w' : World) => RowKit.Below w.heap.size w w') wF1 wF2 := hT
      simp only at hT
      obtain ⟨cc, h1, h2⟩ := h
      exact ⟨cc, h1.next hT, h2⟩
    · have h : (vF = .agg #[.slice p31 p32 p33, .slice p34 p35 p36]) := h
      show (vF = .agg #[.slice p31 p32 p33, .slice p34 p35 p36])
      have hT : (fun (w w' : World) => RowKit.Below w.heap.size w w') wF1 wF2 := hT
      simp only at hT
      exact h
    · have h : (vF = .bool true) := h
      show (vF = .bool true)
      have hT : (fun (w w' : World) => RowKit.Below w.heap.size w w') wF1 wF2 := hT
      simp only at hT
      exact h
    · have h : (vF = .bool false) := h
      show (vF = .bool false)
      have hT : (fun (w w' : World) => RowKit.Below w.heap.size w w') wF1 wF2 := hT
      simp only at hT
      exact h
    · have h : (vF = .bool false) := h
      show (vF = .bool false)
      have hT : (fun (w w' : World) => RowKit.Below w.heap.size w w') wF1 wF2 := hT
      simp only at hT
      exact h
    · have h : (vF = .bool false) := h
      show (vF = .bool false)
      have hT : (fun (w w' : World) => RowKit.Below w.heap.size w w') wF1 wF2 := hT
      simp only at hT
      exact h
    · have h : (vF = .agg #[.slice p31 p32 p33, .slice p34 p35 p36]) := h
      show (vF = .agg #[.slice p31 p32 p33, .slice p34 p35 p36])
      have hT : (fun (w w' : World) => RowKit.Below w.heap.size w w') wF1 wF2 := hT
      simp only at hT
      exact h
    · have h : (vF = .bool true) := h
      show (vF = .bool true)
      have hT : (fun (w w' : World) => RowKit.Below w.heap.size w w') wF1 wF2 := hT
      simp only at hT
      exact h
    · have h : (vF = .bool false) := h
      show (vF = .bool false)
      have hT : (fun (w w' : World) => RowKit.Below w.heap.size w w') wF1 wF2 := hT
      simp only at hT
      exact h
  · refine FlowAll.cons ?_ ?_
    · intro xF w5 hR hd K hK
      clear hd
      simp only [List.take_succ_cons, List.take_zero, fillOf, Act.put, List.setIfInBounds_toArray, List.set_cons_zero, List.set_cons_succ, Nat.reduceAdd, Nat.zero_add] at hK ⊢
      try generalize xF 0 = yy0 at *
      try generalize xF 1 = yy1 at *
      try generalize xF 2 = yy2 at *
      try generalize xF 3 = yy3 at *
      try generalize xF 4 = yy4 at *
      try generalize xF 5 = yy5 at *
      try generalize xF 6 = yy6 at *
      try generalize xF 7 = yy7 at *
      try generalize xF 8 = yy8 at *
      try generalize xF 9 = yy9 at *
      try generalize xF 10 = yy10 at *
      try generalize xF 11 = yy11 at *
      try generalize xF 12 = yy12 at *
      try generalize xF 13 = yy13 at *
      try generalize xF 14 = yy14 at *
      try generalize xF 15 = yy15 at *
      try generalize xF 16 = yy16 at *
      try generalize xF 17 = yy17 at *
      try generalize xF 18 = yy18 at *
      try generalize xF 19 = yy19 at *
      try generalize xF 20 = yy20 at *
      try generalize xF 21 = yy21 at *
      try generalize xF 22 = yy22 at *
      try generalize xF 23 = yy23 at *
      try generalize xF 24 = yy24 at *
      try generalize xF 25 = yy25 at *
      try generalize xF 26 = yy26 at *
      try generalize xF 27 = yy27 at *
      try generalize xF 28 = yy28 at *
      try generalize xF 29 = yy29 at *
      try generalize xF 30 = yy30 at *
      try generalize xF 31 = yy31 at *
      try generalize xF 32 = yy32 at *
      try generalize xF 33 = yy33 at *
      try generalize xF 34 = yy34 at *
      try generalize xF 35 = yy35 at *
      try generalize xF 36 = yy36 at *
      try generalize xF 37 = yy37 at *
      clear xF
      obtain hbR := id hR
      obtain ⟨x3, y3, _, _⟩ := X3.out _ hR
      rw [if_pos (by rfl)]
      go_simp
      refine hK.out _ _ ?_ ?_ ?_
      · exact Below.refl _ _
      · exact rfl
      · exact fun _ _ _ => ⟨trivial, trivial⟩
    refine FlowAll.cons ?_ ?_
    · intro xF w5 hR hd K hK
      clear hd
      simp only [List.take_succ_cons, List.take_zero, fillOf, Act.put, List.setIfInBounds_toArray, List.set_cons_zero, List.set_cons_succ, Nat.reduceAdd, Nat.zero_add] at hK ⊢
      try generalize xF 0 = yy0 at *
      try generalize xF 1 = yy1 at *
      try generalize xF 2 = yy2 at *
      try generalize xF 3 = yy3 at *
      try generalize xF 4 = yy4 at *
      try generalize xF 5 = yy5 at *
      try generalize xF 6 = yy6 at *
      try generalize xF 7 = yy7 at *
      try generalize xF 8 = yy8 at *
      try generalize xF 9 = yy9 at *
      try generalize xF 10 = yy10 at *
      try generalize xF 11 = yy11 at *
      try generalize xF 12 = yy12 at *
      try generalize xF 13 = yy13 at *
      try generalize xF 14 = yy14 at *
      try generalize xF 15 = yy15 at *
      try generalize xF 16 = yy16 at *
      try generalize xF 17 = yy17 at *
      try generalize xF 18 = yy18 at *
      try generalize xF 19 = yy19 at *
      try generalize xF 20 = yy20 at *
      try generalize xF 21 = yy21 at *
      try generalize xF 22 = yy22 at *
      try generalize xF 23 = yy23 at *
      try generalize xF 24 = yy24 at *
      try generalize xF 25 = yy25 at *
      try generalize xF 26 = yy26 at *
      try generalize xF 27 = yy27 at *
      try generalize xF 28 = yy28 at *
      try generalize xF 29 = yy29 at *
      try generalize xF 30 = yy30 at *
      try generalize xF 31 = yy31 at *
      try generalize xF 32 = yy32 at *
      try generalize xF 33 = yy33 at *
      try generalize xF 34 = yy34 at *
      try generalize xF 35 = yy35 at *
      try generalize xF 36 = yy36 at *
      try generalize xF 37 = yy37 at *
      clear xF
      obtain hbR := id hR
      obtain ⟨x1, y1, _, _⟩ := X1.out _ hR
      rw [if_pos (by rfl)]
      go_simp
      refine hK.out _ _ ?_ ?_ ?_
      · exact Below.refl _ _
      · exact rfl
      · exact fun _ _ _ => ⟨trivial, trivial⟩
    refine FlowAll.cons ?_ ?_
    · intro xF w5 hR hd K hK
      clear hd
      simp only [List.take_succ_cons, List.take_zero, fillOf, Act.put, List.setIfInBounds_toArray, List.set_cons_zero, List.set_cons_succ, Nat.reduceAdd, Nat.zero_add] at hK ⊢
      try generalize xF 0 = yy0 at *
      try generalize xF 1 = yy1 at *
      try generalize xF 2 = yy2 at *
      try generalize xF 3 = yy3 at *
      try generalize xF 4 = yy4 at *
      try generalize xF 5 = yy5 at *
      try generalize xF 6 = yy6 at *
      try generalize xF 7 = yy7 at *
      try generalize xF 8 = yy8 at *
      try generalize xF 9 = yy9 at *
      try generalize xF 10 = yy10 at *
      try generalize xF 11 = yy11 at *
      try generalize xF 12 = yy12 at *
      try generalize xF 13 = yy13 at *
      try generalize xF 14 = yy14 at *
      try generalize xF 15 = yy15 at *
      try generalize xF 16 = yy16 at *
      try generalize xF 17 = yy17 at *
      try generalize xF 18 = yy18 at *
      try generalize xF 19 = yy19 at *
      try generalize xF 20 = yy20 at *
      try generalize xF 21 = yy21 at *
      try generalize xF 22 = yy22 at *
      try generalize xF 23 = yy23 at *
      try generalize xF 24 = yy24 at *
      try generalize xF 25 = yy25 at *
      try generalize xF 26 = yy26 at *
      try generalize xF 27 = yy27 at *
      try generalize xF 28 = yy28 at *
      try generalize xF 29 = yy29 at *
      try generalize xF 30 = yy30 at *
      try generalize xF 31 = yy31 at *
      try generalize xF 32 = yy32 at *
      try generalize xF 33 = yy33 at *
      try generalize xF 34 = yy34 at *
      try generalize xF 35 = yy35 at *
      try generalize xF 36 = yy36 at *
      try generalize xF 37 = yy37 at *
      clear xF
      obtain hbR := id hR
      obtain ⟨x0, y0, _, _⟩ := X0.out _ hR
      rw [if_pos (by rfl)]
      go_simp
      refine hK.out _ _ ?_ ?_ ?_
      · exact Below.refl _ _
      · exact rfl
      · exact fun _ _ _ => ⟨trivial, trivial⟩
    refine FlowAll.cons ?_ ?_
    · intro xF w5 hR hd K hK
      have dd1 : ((xF 1) = .agg #[.slice p11 p12 p13, .slice p14 p15 p16]) := hd 1 (by kernel_rfl)
      have dd2 : ((xF 2) = .agg #[.slice p01 p02 p03, .slice p04 p05 p06]) := hd 2 (by kernel_rfl)
      clear hd
      simp only [List.take_succ_cons, List.take_zero, fillOf, Act.put, List.setIfInBounds_toArray, List.set_cons_zero, List.set_cons_succ, Nat.reduceAdd, Nat.zero_add] at hK ⊢
      try generalize xF 0 = yy0 at *
      try generalize xF 1 = yy1 at *
      try generalize xF 2 = yy2 at *
      try generalize xF 3 = yy3 at *
      try generalize xF 4 = yy4 at *
      try generalize xF 5 = yy5 at *
      try generalize xF 6 = yy6 at *
      try generalize xF 7 = yy7 at *
      try generalize xF 8 = yy8 at *
      try generalize xF 9 = yy9 at *
      try generalize xF 10 = yy10 at *
      try generalize xF 11 = yy11 at *
      try generalize xF 12 = yy12 at *
      try generalize xF 13 = yy13 at *
      try generalize xF 14 = yy14 at *
      try generalize xF 15 = yy15 at *
      try generalize xF 16 = yy16 at *
      try generalize xF 17 = yy17 at *
      try generalize xF 18 = yy18 at *
      try generalize xF 19 = yy19 at *
      try generalize xF 20 = yy20 at *
      try generalize xF 21 = yy21 at *
      try generalize xF 22 = yy22 at *
      try generalize xF 23 = yy23 at *
      try generalize xF 24 = yy24 at *
      try generalize xF 25 = yy25 at *
      try generalize xF 26 = yy26 at *
      try generalize xF 27 = yy27 at *
      try generalize xF 28 = yy28 at *
      try generalize xF 29 = yy29 at *
      try generalize xF 30 = yy30 at *
      try generalize xF 31 = yy31 at *
      try generalize xF 32 = yy32 at *
      try generalize xF 33 = yy33 at *
      try generalize xF 34 = yy34 at *
      try generalize xF 35 = yy35 at *
      try generalize xF 36 = yy36 at *
      try generalize xF 37 = yy37 at *
      clear xF
      obtain rfl := dd1
      obtain rfl := dd2
      obtain hbR := id hR
      rw [if_pos (by rfl)]
      go_simp
      (go_at_call 22; (with_reducible refine (JN.out X1.out X0.out HI1.out HI0.out (by omega) (by omega) _ hR).mono ?_); rintro e wK ⟨vK, ccK, rfl, hcK, hsK, hbK⟩)
      try go_wp2_with fail
      refine hK.out _ _ ?_ ?_ ?_
      · exact hbK
      · exact ⟨ccK, hcK, hsK.le (by omega)⟩
      · exact fun _ _ _ => ⟨trivial, trivial⟩
    refine FlowAll.cons ?_ ?_
    · intro xF w5 hR hd K hK
      have dd0 : ((xF 0) = .agg #[.slice p31 p32 p33, .slice p34 p35 p36]) := hd 0 (by kernel_rfl)
      have dd3 : (∃ cc, CtxAt w5 w5.heap.size (xF 3) cc ∧ dm.Is cc (fun e => dm.Knows b e ∨ dm.Knows a e) 20000) := hd 3 (by kernel_rfl)
      clear hd
      simp only [List.take_succ_cons, List.take_zero, fillOf, Act.put, List.setIfInBounds_toArray, List.set_cons_zero, List.set_cons_succ, Nat.reduceAdd, Nat.zero_add] at hK ⊢
      try generalize xF 0 = yy0 at *
      try generalize xF 1 = yy1 at *
      try generalize xF 2 = yy2 at *
      try generalize xF 3 = yy3 at *
      try generalize xF 4 = yy4 at *
      try generalize xF 5 = yy5 at *
      try generalize xF 6 = yy6 at *
      try generalize xF 7 = yy7 at *
      try generalize xF 8 = yy8 at *
      try generalize xF 9 = yy9 at *
      try generalize xF 10 = yy10 at *
      try generalize xF 11 = yy11 at *
      try generalize xF 12 = yy12 at *
      try generalize xF 13 = yy13 at *
      try generalize xF 14 = yy14 at *
      try generalize xF 15 = yy15 at *
      try generalize xF 16 = yy16 at *
      try generalize xF 17 = yy17 at *
      try generalize xF 18 = yy18 at *
      try generalize xF 19 = yy19 at *
      try generalize xF 20 = yy20 at *
      try generalize xF 21 = yy21 at *
      try generalize xF 22 = yy22 at *
      try generalize xF 23 = yy23 at *
      try generalize xF 24 = yy24 at *
      try generalize xF 25 = yy25 at *
      try generalize xF 26 = yy26 at *
      try generalize xF 27 = yy27 at *
      try generalize xF 28 = yy28 at *
      try generalize xF 29 = yy29 at *
      try generalize xF 30 = yy30 at *
      try generalize xF 31 = yy31 at *
      try generalize xF 32 = yy32 at *
      try generalize xF 33 = yy33 at *
      try generalize xF 34 = yy34 at *
      try generalize xF 35 = yy35 at *
      try generalize xF 36 = yy36 at *
      try generalize xF 37 = yy37 at *
      clear xF
      obtain rfl := dd0
      obtain ⟨cc3, hc3, hs3⟩ := dd3
      obtain hbR := id hR
      rw [if_pos (by rfl)]
      go_simp
      (go_at_call 25; (with_reducible refine (SM.out _ _ _ _ _ _ _ (X3.out.get _ hR).ctx hc3 HIab.out hs3 SE1.out).mono ?_); rintro e wK ⟨rfl, hbK⟩)
      try go_wp2_with fail
      refine hK.out _ _ ?_ ?_ ?_
      · exact hbK
      · exact rfl
      · exact fun _ _ _ => ⟨trivial, trivial⟩
    refine FlowAll.cons ?_ ?_
    · intro xF w5 hR hd K hK
      have dd4 : ((xF 4) = .bool true) := hd 4 (by kernel_rfl)
      clear hd
      simp only [List.take_succ_cons, List.take_zero, fillOf, Act.put, List.setIfInBounds_toArray, List.set_cons_zero, List.set_cons_succ, Nat.reduceAdd, Nat.zero_add] at hK ⊢
      try generalize xF 0 = yy0 at *
      try generalize xF 1 = yy1 at *
      try generalize xF 2 = yy2 at *
      try generalize xF 3 = yy3 at *
      try generalize xF 4 = yy4 at *
      try generalize xF 5 = yy5 at *
      try generalize xF 6 = yy6 at *
      try generalize xF 7 = yy7 at *
      try generalize xF 8 = yy8 at *
      try generalize xF 9 = yy9 at *
      try generalize xF 10 = yy10 at *
      try generalize xF 11 = yy11 at *
      try generalize xF 12 = yy12 at *
      try generalize xF 13 = yy13 at *
      try generalize xF 14 = yy14 at *
      try generalize xF 15 = yy15 at *
      try generalize xF 16 = yy16 at *
      try generalize xF 17 = yy17 at *
      try generalize xF 18 = yy18 at *
      try generalize xF 19 = yy19 at *
      try generalize xF 20 = yy20 at *
      try generalize xF 21 = yy21 at *
      try generalize xF 22 = yy22 at *
      try generalize xF 23 = yy23 at *
      try generalize xF 24 = yy24 at *
      try generalize xF 25 = yy25 at *
      try generalize xF 26 = yy26 at *
      try generalize xF 27 = yy27 at *
      try generalize xF 28 = yy28 at *
      try generalize xF 29 = yy29 at *
      try generalize xF 30 = yy30 at *
      try generalize xF 31 = yy31 at *
      try generalize xF 32 = yy32 at *
      try generalize xF 33 = yy33 at *
      try generalize xF 34 = yy34 at *
      try generalize xF 35 = yy35 at *
      try generalize xF 36 = yy36 at *
      try generalize xF 37 = yy37 at *
      clear xF
      obtain rfl := dd4
      obtain hbR := id hR
      rw [if_pos (by rfl)]
      go_simp
      refine hK.out _ _ ?_ ?_ ?_
      · exact Below.refl _ _
      · exact rfl
      · exact fun _ _ _ => ⟨trivial, trivial⟩
    refine FlowAll.cons ?_ ?_
    · intro xF w5 hR hd K hK
      have dd5 : ((xF 5) = .bool false) := hd 5 (by kernel_rfl)
      clear hd
      simp only [List.take_succ_cons, List.take_zero, fillOf, Act.put, List.setIfInBounds_toArray, List.set_cons_zero, List.set_cons_succ, Nat.reduceAdd, Nat.zero_add] at hK ⊢
      try generalize xF 0 = yy0 at *
      try generalize xF 1 = yy1 at *
      try generalize xF 2 = yy2 at *
      try generalize xF 3 = yy3 at *
      try generalize xF 4 = yy4 at *
      try generalize xF 5 = yy5 at *
      try generalize xF 6 = yy6 at *
      try generalize xF 7 = yy7 at *
      try generalize xF 8 = yy8 at *
      try generalize xF 9 = yy9 at *
      try generalize xF 10 = yy10 at *
      try generalize xF 11 = yy11 at *
      try generalize xF 12 = yy12 at *
      try generalize xF 13 = yy13 at *
      try generalize xF 14 = yy14 at *
      try generalize xF 15 = yy15 at *
      try generalize xF 16 = yy16 at *
      try generalize xF 17 = yy17 at *
      try generalize xF 18 = yy18 at *
      try generalize xF 19 = yy19 at *
      try generalize xF 20 = yy20 at *
      try generalize xF 21 = yy21 at *
      try generalize xF 22 = yy22 at *
      try generalize xF 23 = yy23 at *
      try generalize xF 24 = yy24 at *
      try generalize xF 25 = yy25 at *
      try generalize xF 26 = yy26 at *
      try generalize xF 27 = yy27 at *
      try generalize xF 28 = yy28 at *
      try generalize xF 29 = yy29 at *
      try generalize xF 30 = yy30 at *
      try generalize xF 31 = yy31 at *
      try generalize xF 32 = yy32 at *
      try generalize xF 33 = yy33 at *
      try generalize xF 34 = yy34 at *
      try generalize xF 35 = yy35 at *
      try generalize xF 36 = yy36 at *
      try generalize xF 37 = yy37 at *
      clear xF
      obtain rfl := dd5
      obtain hbR := id hR
      rw [if_pos (by rfl)]
      go_simp
      refine hK.out _ _ ?_ ?_ ?_
      · exact Below.refl _ _
      · exact rfl
      · exact fun _ _ _ => ⟨trivial, trivial⟩
    refine FlowAll.cons ?_ ?_
    · intro xF w5 hR hd K hK
      have dd6 : ((xF 6) = .bool false) := hd 6 (by kernel_rfl)
      clear hd
      simp only [List.take_succ_cons, List.take_zero, fillOf, Act.put, List.setIfInBounds_toArray, List.set_cons_zero, List.set_cons_succ, Nat.reduceAdd, Nat.zero_add] at hK ⊢
      try generalize xF 0 = yy0 at *
      try generalize xF 1 = yy1 at *
      try generalize xF 2 = yy2 at *
      try generalize xF 3 = yy3 at *
      try generalize xF 4 = yy4 at *
      try generalize xF 5 = yy5 at *
      try generalize xF 6 = yy6 at *
      try generalize xF 7 = yy7 at *
      try generalize xF 8 = yy8 at *
      try generalize xF 9 = yy9 at *
      try generalize xF 10 = yy10 at *
      try generalize xF 11 = yy11 at *
      try generalize xF 12 = yy12 at *
      try generalize xF 13 = yy13 at *
      try generalize xF 14 = yy14 at *
      try generalize xF 15 = yy15 at *
      try generalize xF 16 = yy16 at *
      try generalize xF 17 = yy17 at *
      try generalize xF 18 = yy18 at *
      try generalize xF 19 = yy19 at *
      try generalize xF 20 = yy20 at *
      try generalize xF 21 = yy21 at *
      try generalize xF 22 = yy22 at *
      try generalize xF 23 = yy23 at *
      try generalize xF 24 = yy24 at *
      try generalize xF 25 = yy25 at *
      try generalize xF 26 = yy26 at *
      try generalize xF 27 = yy27 at *
      try generalize xF 28 = yy28 at *
      try generalize xF 29 = yy29 at *
      try generalize xF 30 = yy30 at *
      try generalize xF 31 = yy31 at *
      try generalize xF 32 = yy32 at *
      try generalize xF 33 = yy33 at *
      try generalize xF 34 = yy34 at *
      try generalize xF 35 = yy35 at *
      try generalize xF 36 = yy36 at *
      try generalize xF 37 = yy37 at *
      clear xF
      obtain rfl := dd6
      obtain hbR := id hR
      obtain ⟨x3, y3, _, _⟩ := X3.out _ hR
      rw [if_pos (by rfl)]
      go_simp
      refine hK.out _ _ ?_ ?_ ?_
      · exact Below.refl _ _
      · exact rfl
      · exact fun _ _ _ => ⟨trivial, trivial⟩
    refine FlowAll.cons ?_ ?_
    · intro xF w5 hR hd K hK
      have dd6 : ((xF 6) = .bool false) := hd 6 (by kernel_rfl)
      clear hd
      simp only [List.take_succ_cons, List.take_zero, fillOf, Act.put, List.setIfInBounds_toArray, List.set_cons_zero, List.set_cons_succ, Nat.reduceAdd, Nat.zero_add] at hK ⊢
      try generalize xF 0 = yy0 at *
      try generalize xF 1 = yy1 at *
      try generalize xF 2 = yy2 at *
      try generalize xF 3 = yy3 at *
      try generalize xF 4 = yy4 at *
      try generalize xF 5 = yy5 at *
      try generalize xF 6 = yy6 at *
      try generalize xF 7 = yy7 at *
      try generalize xF 8 = yy8 at *
      try generalize xF 9 = yy9 at *
      try generalize xF 10 = yy10 at *
      try generalize xF 11 = yy11 at *
      try generalize xF 12 = yy12 at *
      try generalize xF 13 = yy13 at *
      try generalize xF 14 = yy14 at *
      try generalize xF 15 = yy15 at *
      try generalize xF 16 = yy16 at *
      try generalize xF 17 = yy17 at *
      try generalize xF 18 = yy18 at *
      try generalize xF 19 = yy19 at *
      try generalize xF 20 = yy20 at *
      try generalize xF 21 = yy21 at *
      try generalize xF 22 = yy22 at *
      try generalize xF 23 = yy23 at *
      try generalize xF 24 = yy24 at *
      try generalize xF 25 = yy25 at *
      try generalize xF 26 = yy26 at *
      try generalize xF 27 = yy27 at *
      try generalize xF 28 = yy28 at *
      try generalize xF 29 = yy29 at *
      try generalize xF 30 = yy30 at *
      try generalize xF 31 = yy31 at *
      try generalize xF 32 = yy32 at *
      try generalize xF 33 = yy33 at *
      try generalize xF 34 = yy34 at *
      try generalize xF 35 = yy35 at *
      try generalize xF 36 = yy36 at *
      try generalize xF 37 = yy37 at *
      clear xF
      obtain rfl := dd6
      obtain hbR := id hR
      obtain ⟨x2, y2, _, _⟩ := X2.out _ hR
      rw [if_pos (by rfl)]
      go_simp
      refine hK.out _ _ ?_ ?_ ?_
      · exact Below.refl _ _
      · exact rfl
      · exact fun _ _ _ => ⟨trivial, trivial⟩
    refine FlowAll.cons ?_ ?_
    · intro xF w5 hR hd K hK
      have dd6 : ((xF 6) = .bool false) := hd 6 (by kernel_rfl)
      have dd7 : ((xF 7) = .agg #[.slice p31 p32 p33, .slice p34 p35 p36]) := hd 7 (by kernel_rfl)
      have dd8 : ((xF 8) = .agg #[.slice p21 p22 p23, .slice p24 p25 p26]) := hd 8 (by kernel_rfl)
      clear hd
      simp only [List.take_succ_cons, List.take_zero, fillOf, Act.put, List.setIfInBounds_toArray, List.set_cons_zero, List.set_cons_succ, Nat.reduceAdd, Nat.zero_add] at hK ⊢
      try generalize xF 0 = yy0 at *
      try generalize xF 1 = yy1 at *
      try generalize xF 2 = yy2 at *
      try generalize xF 3 = yy3 at *
      try generalize xF 4 = yy4 at *
      try generalize xF 5 = yy5 at *
      try generalize xF 6 = yy6 at *
      try generalize xF 7 = yy7 at *
      try generalize xF 8 = yy8 at *
      try generalize xF 9 = yy9 at *
      try generalize xF 10 = yy10 at *
      try generalize xF 11 = yy11 at *
      try generalize xF 12 = yy12 at *
      try generalize xF 13 = yy13 at *
      try generalize xF 14 = yy14 at *
      try generalize xF 15 = yy15 at *
      try generalize xF 16 = yy16 at *
      try generalize xF 17 = yy17 at *
      try generalize xF 18 = yy18 at *
      try generalize xF 19 = yy19 at *
      try generalize xF 20 = yy20 at *
      try generalize xF 21 = yy21 at *
      try generalize xF 22 = yy22 at *
      try generalize xF 23 = yy23 at *
      try generalize xF 24 = yy24 at *
      try generalize xF 25 = yy25 at *
      try generalize xF 26 = yy26 at *
      try generalize xF 27 = yy27 at *
      try generalize xF 28 = yy28 at *
      try generalize xF 29 = yy29 at *
      try generalize xF 30 = yy30 at *
      try generalize xF 31 = yy31 at *
      try generalize xF 32 = yy32 at *
      try generalize xF 33 = yy33 at *
      try generalize xF 34 = yy34 at *
      try generalize xF 35 = yy35 at *
      try generalize xF 36 = yy36 at *
      try generalize xF 37 = yy37 at *
      clear xF
      obtain rfl := dd6
      obtain rfl := dd7
      obtain rfl := dd8
      obtain hbR := id hR
      rw [if_pos (by rfl)]
      go_simp
      (go_at_call 22; (with_reducible refine (JN.out X3.out X2.out HIab2.out HI2.out (by omega) (by omega) _ hR).mono ?_); rintro e wK ⟨vK, ccK, rfl, hcK, hsK, hbK⟩)
      try go_wp2_with fail
      refine hK.out _ _ ?_ ?_ ?_
      · exact hbK
      · exact ⟨ccK, hcK, hsK.le (by omega)⟩
      · exact fun _ _ _ => ⟨trivial, trivial⟩
    refine FlowAll.cons ?_ ?_
    · intro xF w5 hR hd K hK
      have dd6 : ((xF 6) = .bool false) := hd 6 (by kernel_rfl)
      clear hd
      simp only [List.take_succ_cons, List.take_zero, fillOf, Act.put, List.setIfInBounds_toArray, List.set_cons_zero, List.set_cons_succ, Nat.reduceAdd, Nat.zero_add] at hK ⊢
      try generalize xF 0 = yy0 at *
      try generalize xF 1 = yy1 at *
      try generalize xF 2 = yy2 at *
      try generalize xF 3 = yy3 at *
      try generalize xF 4 = yy4 at *
      try generalize xF 5 = yy5 at *
      try generalize xF 6 = yy6 at *
      try generalize xF 7 = yy7 at *
      try generalize xF 8 = yy8 at *
      try generalize xF 9 = yy9 at *
      try generalize xF 10 = yy10 at *
      try generalize xF 11 = yy11 at *
      try generalize xF 12 = yy12 at *
      try generalize xF 13 = yy13 at *
      try generalize xF 14 = yy14 at *
      try generalize xF 15 = yy15 at *
      try generalize xF 16 = yy16 at *
      try generalize xF 17 = yy17 at *
      try generalize xF 18 = yy18 at *
      try generalize xF 19 = yy19 at *
      try generalize xF 20 = yy20 at *
      try generalize xF 21 = yy21 at *
      try generalize xF 22 = yy22 at *
      try generalize xF 23 = yy23 at *
      try generalize xF 24 = yy24 at *
      try generalize xF 25 = yy25 at *
      try generalize xF 26 = yy26 at *
      try generalize xF 27 = yy27 at *
      try generalize xF 28 = yy28 at *
      try generalize xF 29 = yy29 at *
      try generalize xF 30 = yy30 at *
      try generalize xF 31 = yy31 at *
      try generalize xF 32 = yy32 at *
      try generalize xF 33 = yy33 at *
      try generalize xF 34 = yy34 at *
      try generalize xF 35 = yy35 at *
      try generalize xF 36 = yy36 at *
      try generalize xF 37 = yy37 at *
      clear xF
      obtain rfl := dd6
      obtain hbR := id hR
      obtain ⟨x0, y0, _, _⟩ := X0.out _ hR
      rw [if_pos (by rfl)]
      go_simp
      refine hK.out _ _ ?_ ?_ ?_
      · exact Below.refl _ _
      · exact rfl
      · exact fun _ _ _ => ⟨trivial, trivial⟩
    refine FlowAll.cons ?_ ?_
    · intro xF w5 hR hd K hK
      have dd6 : ((xF 6) = .bool false) := hd 6 (by kernel_rfl)
      clear hd
      simp only [List.take_succ_cons, List.take_zero, fillOf, Act.put, List.setIfInBounds_toArray, List.set_cons_zero, List.set_cons_succ, Nat.reduceAdd, Nat.zero_add] at hK ⊢
      try generalize xF 0 = yy0 at *
      try generalize xF 1 = yy1 at *
      try generalize xF 2 = yy2 at *
      try generalize xF 3 = yy3 at *
      try generalize xF 4 = yy4 at *
      try generalize xF 5 = yy5 at *
      try generalize xF 6 = yy6 at *
      try generalize xF 7 = yy7 at *
      try generalize xF 8 = yy8 at *
      try generalize xF 9 = yy9 at *
      try generalize xF 10 = yy10 at *
      try generalize xF 11 = yy11 at *
      try generalize xF 12 = yy12 at *
      try generalize xF 13 = yy13 at *
      try generalize xF 14 = yy14 at *
      try generalize xF 15 = yy15 at *
      try generalize xF 16 = yy16 at *
      try generalize xF 17 = yy17 at *
      try generalize xF 18 = yy18 at *
      try generalize xF 19 = yy19 at *
      try generalize xF 20 = yy20 at *
      try generalize xF 21 = yy21 at *
      try generalize xF 22 = yy22 at *
      try generalize xF 23 = yy23 at *
      try generalize xF 24 = yy24 at *
      try generalize xF 25 = yy25 at *
      try generalize xF 26 = yy26 at *
      try generalize xF 27 = yy27 at *
      try generalize xF 28 = yy28 at *
      try generalize xF 29 = yy29 at *
      try generalize xF 30 = yy30 at *
      try generalize xF 31 = yy31 at *
      try generalize xF 32 = yy32 at *
      try generalize xF 33 = yy33 at *
      try generalize xF 34 = yy34 at *
      try generalize xF 35 = yy35 at *
      try generalize xF 36 = yy36 at *
      try generalize xF 37 = yy37 at *
      clear xF
      obtain rfl := dd6
      obtain hbR := id hR
      obtain ⟨x1, y1, _, _⟩ := X1.out _ hR
      rw [if_pos (by rfl)]
      go_simp
      refine hK.out _ _ ?_ ?_ ?_
      · exact Below.refl _ _
      · exact rfl
      · exact fun _ _ _ => ⟨trivial, trivial⟩
    refine FlowAll.cons ?_ ?_
    · intro xF w5 hR hd K hK
      have dd6 : ((xF 6) = .bool false) := hd 6 (by kernel_rfl)
      clear hd
      simp only [List.take_succ_cons, List.take_zero, fillOf, Act.put, List.setIfInBounds_toArray, List.set_cons_zero, List.set_cons_succ, Nat.reduceAdd, Nat.zero_add] at hK ⊢
      try generalize xF 0 = yy0 at *
      try generalize xF 1 = yy1 at *
      try generalize xF 2 = yy2 at *
      try generalize xF 3 = yy3 at *
      try generalize xF 4 = yy4 at *
      try generalize xF 5 = yy5 at *
      try generalize xF 6 = yy6 at *
      try generalize xF 7 = yy7 at *
      try generalize xF 8 = yy8 at *
      try generalize xF 9 = yy9 at *
      try generalize xF 10 = yy10 at *
      try generalize xF 11 = yy11 at *
      try generalize xF 12 = yy12 at *
      try generalize xF 13 = yy13 at *
      try generalize xF 14 = yy14 at *
      try generalize xF 15 = yy15 at *
      try generalize xF 16 = yy16 at *
      try generalize xF 17 = yy17 at *
      try generalize xF 18 = yy18 at *
      try generalize xF 19 = yy19 at *
      try generalize xF 20 = yy20 at *
      try generalize xF 21 = yy21 at *
      try generalize xF 22 = yy22 at *
      try generalize xF 23 = yy23 at *
      try generalize xF 24 = yy24 at *
      try generalize xF 25 = yy25 at *
      try generalize xF 26 = yy26 at *
      try generalize xF 27 = yy27 at *
      try generalize xF 28 = yy28 at *
      try generalize xF 29 = yy29 at *
      try generalize xF 30 = yy30 at *
      try generalize xF 31 = yy31 at *
      try generalize xF 32 = yy32 at *
      try generalize xF 33 = yy33 at *
      try generalize xF 34 = yy34 at *
      try generalize xF 35 = yy35 at *
      try generalize xF 36 = yy36 at *
      try generalize xF 37 = yy37 at *
      clear xF
      obtain rfl := dd6
      obtain hbR := id hR
      obtain ⟨x2, y2, _, _⟩ := X2.out _ hR
      rw [if_pos (by rfl)]
      go_simp
      refine hK.out _ _ ?_ ?_ ?_
      · exact Below.refl _ _
      · exact rfl
      · exact fun _ _ _ => ⟨trivial, trivial⟩
    refine FlowAll.cons ?_ ?_
    · intro xF w5 hR hd K hK
      have dd6 : ((xF 6) = .bool false) := hd 6 (by kernel_rfl)
      have dd11 : ((xF 11) = .agg #[.slice p11 p12 p13, .slice p14 p15 p16]) := hd 11 (by kernel_rfl)
      have dd12 : ((xF 12) = .agg #[.slice p21 p22 p23, .slice p24 p25 p26]) := hd 12 (by kernel_rfl)
      clear hd
      simp only [List.take_succ_cons, List.take_zero, fillOf, Act.put, List.setIfInBounds_toArray, List.set_cons_zero, List.set_cons_succ, Nat.reduceAdd, Nat.zero_add] at hK ⊢
      try generalize xF 0 = yy0 at *
      try generalize xF 1 = yy1 at *
      try generalize xF 2 = yy2 at *
      try generalize xF 3 = yy3 at *
      try generalize xF 4 = yy4 at *
      try generalize xF 5 = yy5 at *
      try generalize xF 6 = yy6 at *
      try generalize xF 7 = yy7 at *
      try generalize xF 8 = yy8 at *
      try generalize xF 9 = yy9 at *
      try generalize xF 10 = yy10 at *
      try generalize xF 11 = yy11 at *
      try generalize xF 12 = yy12 at *
      try generalize xF 13 = yy13 at *
      try generalize xF 14 = yy14 at *
      try generalize xF 15 = yy15 at *
      try generalize xF 16 = yy16 at *
      try generalize xF 17 = yy17 at *
      try generalize xF 18 = yy18 at *
      try generalize xF 19 = yy19 at *
      try generalize xF 20 = yy20 at *
      try generalize xF 21 = yy21 at *
      try generalize xF 22 = yy22 at *
      try generalize xF 23 = yy23 at *
      try generalize xF 24 = yy24 at *
      try generalize xF 25 = yy25 at *
      try generalize xF 26 = yy26 at *
      try generalize xF 27 = yy27 at *
      try generalize xF 28 = yy28 at *
      try generalize xF 29 = yy29 at *
      try generalize xF 30 = yy30 at *
      try generalize xF 31 = yy31 at *
      try generalize xF 32 = yy32 at *
      try generalize xF 33 = yy33 at *
      try generalize xF 34 = yy34 at *
      try generalize xF 35 = yy35 at *
      try generalize xF 36 = yy36 at *
      try generalize xF 37 = yy37 at *
      clear xF
      obtain rfl := dd6
      obtain rfl := dd11
      obtain rfl := dd12
      obtain hbR := id hR
      rw [if_pos (by rfl)]
      go_simp
      (go_at_call 22; (with_reducible refine (JN.out X1.out X2.out HI1.out HI2.out (by omega) (by omega) _ hR).mono ?_); rintro e wK ⟨vK, ccK, rfl, hcK, hsK, hbK⟩)
      try go_wp2_with fail
      refine hK.out _ _ ?_ ?_ ?_
      · exact hbK
      · exact ⟨ccK, hcK, hsK.le (by omega)⟩
      · exact fun _ _ _ => ⟨trivial, trivial⟩
    refine FlowAll.cons ?_ ?_
    · intro xF w5 hR hd K hK
      have dd6 : ((xF 6) = .bool false) := hd 6 (by kernel_rfl)
      have dd10 : ((xF 10) = .agg #[.slice p01 p02 p03, .slice p04 p05 p06]) := hd 10 (by kernel_rfl)
      have dd13 : (∃ cc, CtxAt w5 w5.heap.size (xF 13) cc ∧ dm.Is cc (fun e => dm.Knows b e ∨ dm.Knows c e) 20000) := hd 13 (by kernel_rfl)
      clear hd
      simp only [List.take_succ_cons, List.take_zero, fillOf, Act.put, List.setIfInBounds_toArray, List.set_cons_zero, List.set_cons_succ, Nat.reduceAdd, Nat.zero_add] at hK ⊢
      try generalize xF 0 = yy0 at *
      try generalize xF 1 = yy1 at *
      try generalize xF 2 = yy2 at *
      try generalize xF 3 = yy3 at *
      try generalize xF 4 = yy4 at *
      try generalize xF 5 = yy5 at *
      try generalize xF 6 = yy6 at *
      try generalize xF 7 = yy7 at *
      try generalize xF 8 = yy8 at *
      try generalize xF 9 = yy9 at *
      try generalize xF 10 = yy10 at *
      try generalize xF 11 = yy11 at *
      try generalize xF 12 = yy12 at *
      try generalize xF 13 = yy13 at *
      try generalize xF 14 = yy14 at *
      try generalize xF 15 = yy15 at *
      try generalize xF 16 = yy16 at *
      try generalize xF 17 = yy17 at *
      try generalize xF 18 = yy18 at *
      try generalize xF 19 = yy19 at *
      try generalize xF 20 = yy20 at *
      try generalize xF 21 = yy21 at *
      try generalize xF 22 = yy22 at *
      try generalize xF 23 = yy23 at *
      try generalize xF 24 = yy24 at *
      try generalize xF 25 = yy25 at *
      try generalize xF 26 = yy26 at *
      try generalize xF 27 = yy27 at *
      try generalize xF 28 = yy28 at *
      try generalize xF 29 = yy29 at *
      try generalize xF 30 = yy30 at *
      try generalize xF 31 = yy31 at *
      try generalize xF 32 = yy32 at *
      try generalize xF 33 = yy33 at *
      try generalize xF 34 = yy34 at *
      try generalize xF 35 = yy35 at *
      try generalize xF 36 = yy36 at *
      try generalize xF 37 = yy37 at *
      clear xF
      obtain rfl := dd6
      obtain rfl := dd10
      obtain ⟨cc13, hc13, hs13⟩ := dd13
      obtain hbR := id hR
      rw [if_pos (by rfl)]
      go_simp
      (go_at_call 22; (with_reducible refine (JL.out X0.out HI0.out _ _ _ hR hc13 hs13).mono ?_); rintro e wK ⟨vK, ccK, rfl, hcK, hsK, hbK⟩)
      try go_wp2_with fail
      refine hK.out _ _ ?_ ?_ ?_
      · exact hbK
      · exact ⟨ccK, hcK, hsK.le (by omega)⟩
      · exact fun _ _ _ => ⟨trivial, trivial⟩
    refine FlowAll.cons ?_ ?_
    · intro xF w5 hR hd K hK
      have dd6 : ((xF 6) = .bool false) := hd 6 (by kernel_rfl)
      have dd9 : (∃ cc, CtxAt w5 w5.heap.size (xF 9) cc ∧ dm.Is cc (fun e => dm.Knows ab e ∨ dm.Knows c e) 20000) := hd 9 (by kernel_rfl)
      have dd14 : (∃ cc, CtxAt w5 w5.heap.size (xF 14) cc ∧ dm.Is cc (fun e => dm.Knows a e ∨ (dm.Knows b e ∨ dm.Knows c e)) 30000) := hd 14 (by kernel_rfl)
      clear hd
      simp only [List.take_succ_cons, List.take_zero, fillOf, Act.put, List.setIfInBounds_toArray, List.set_cons_zero, List.set_cons_succ, Nat.reduceAdd, Nat.zero_add] at hK ⊢
      try generalize xF 0 = yy0 at *
      try generalize xF 1 = yy1 at *
      try generalize xF 2 = yy2 at *
      try generalize xF 3 = yy3 at *
      try generalize xF 4 = yy4 at *
      try generalize xF 5 = yy5 at *
      try generalize xF 6 = yy6 at *
      try generalize xF 7 = yy7 at *
      try generalize xF 8 = yy8 at *
      try generalize xF 9 = yy9 at *
      try generalize xF 10 = yy10 at *
      try generalize xF 11 = yy11 at *
      try generalize xF 12 = yy12 at *
      try generalize xF 13 = yy13 at *
      try generalize xF 14 = yy14 at *
      try generalize xF 15 = yy15 at *
      try generalize xF 16 = yy16 at *
      try generalize xF 17 = yy17 at *
      try generalize xF 18 = yy18 at *
      try generalize xF 19 = yy19 at *
      try generalize xF 20 = yy20 at *
      try generalize xF 21 = yy21 at *
      try generalize xF 22 = yy22 at *
      try generalize xF 23 = yy23 at *
      try generalize xF 24 = yy24 at *
      try generalize xF 25 = yy25 at *
      try generalize xF 26 = yy26 at *
      try generalize xF 27 = yy27 at *
      try generalize xF 28 = yy28 at *
      try generalize xF 29 = yy29 at *
      try generalize xF 30 = yy30 at *
      try generalize xF 31 = yy31 at *
      try generalize xF 32 = yy32 at *
      try generalize xF 33 = yy33 at *
      try generalize xF 34 = yy34 at *
      try generalize xF 35 = yy35 at *
      try generalize xF 36 = yy36 at *
      try generalize xF 37 = yy37 at *
      clear xF
      obtain rfl := dd6
      obtain ⟨cc9, hc9, hs9⟩ := dd9
      obtain ⟨cc14, hc14, hs14⟩ := dd14
      obtain hbR := id hR
      rw [if_pos (by rfl)]
      go_simp
      (go_at_call 25; (with_reducible refine (SM.out _ _ _ _ _ _ _ hc9 hc14 hs9 hs14 SE2.out).mono ?_); rintro e wK ⟨rfl, hbK⟩)
      try go_wp2_with fail
      refine hK.out _ _ ?_ ?_ ?_
      · exact hbK
      · exact rfl
      · exact fun _ _ _ => ⟨trivial, trivial⟩
    refine FlowAll.cons ?_ ?_
    · intro xF w5 hR hd K hK
      have dd6 : ((xF 6) = .bool false) := hd 6 (by kernel_rfl)
      have dd15 : ((xF 15) = .bool true) := hd 15 (by kernel_rfl)
      clear hd
      simp only [List.take_succ_cons, List.take_zero, fillOf, Act.put, List.setIfInBounds_toArray, List.set_cons_zero, List.set_cons_succ, Nat.reduceAdd, Nat.zero_add] at hK ⊢
      try generalize xF 0 = yy0 at *
      try generalize xF 1 = yy1 at *
      try generalize xF 2 = yy2 at *
      try generalize xF 3 = yy3 at *
      try generalize xF 4 = yy4 at *
      try generalize xF 5 = yy5 at *
      try generalize xF 6 = yy6 at *
      try generalize xF 7 = yy7 at *
      try generalize xF 8 = yy8 at *
      try generalize xF 9 = yy9 at *
      try generalize xF 10 = yy10 at *
      try generalize xF 11 = yy11 at *
      try generalize xF 12 = yy12 at *
      try generalize xF 13 = yy13 at *
      try generalize xF 14 = yy14 at *
      try generalize xF 15 = yy15 at *
      try generalize xF 16 = yy16 at *
      try generalize xF 17 = yy17 at *
      try generalize xF 18 = yy18 at *
      try generalize xF 19 = yy19 at *
      try generalize xF 20 = yy20 at *
      try generalize xF 21 = yy21 at *
      try generalize xF 22 = yy22 at *
      try generalize xF 23 = yy23 at *
      try generalize xF 24 = yy24 at *
      try generalize xF 25 = yy25 at *
      try generalize xF 26 = yy26 at *
      try generalize xF 27 = yy27 at *
      try generalize xF 28 = yy28 at *
      try generalize xF 29 = yy29 at *
      try generalize xF 30 = yy30 at *
      try generalize xF 31 = yy31 at *
      try generalize xF 32 = yy32 at *
      try generalize xF 33 = yy33 at *
      try generalize xF 34 = yy34 at *
      try generalize xF 35 = yy35 at *
      try generalize xF 36 = yy36 at *
      try generalize xF 37 = yy37 at *
      clear xF
      obtain rfl := dd6
      obtain rfl := dd15
      obtain hbR := id hR
      rw [if_pos (by rfl)]
      go_simp
      refine hK.out _ _ ?_ ?_ ?_
      · exact Below.refl _ _
      · exact rfl
      · exact fun _ _ _ => ⟨trivial, trivial⟩
    refine FlowAll.cons ?_ ?_
    · intro xF w5 hR hd K hK
      have dd6 : ((xF 6) = .bool false) := hd 6 (by kernel_rfl)
      have dd16 : ((xF 16) = .bool false) := hd 16 (by kernel_rfl)
      clear hd
      simp only [List.take_succ_cons, List.take_zero, fillOf, Act.put, List.setIfInBounds_toArray, List.set_cons_zero, List.set_cons_succ, Nat.reduceAdd, Nat.zero_add] at hK ⊢
      try generalize xF 0 = yy0 at *
      try generalize xF 1 = yy1 at *
      try generalize xF 2 = yy2 at *
      try generalize xF 3 = yy3 at *
      try generalize xF 4 = yy4 at *
      try generalize xF 5 = yy5 at *
      try generalize xF 6 = yy6 at *
      try generalize xF 7 = yy7 at *
      try generalize xF 8 = yy8 at *
      try generalize xF 9 = yy9 at *
      try generalize xF 10 = yy10 at *
      try generalize xF 11 = yy11 at *
      try generalize xF 12 = yy12 at *
      try generalize xF 13 = yy13 at *
      try generalize xF 14 = yy14 at *
      try generalize xF 15 = yy15 at *
      try generalize xF 16 = yy16 at *
      try generalize xF 17 = yy17 at *
      try generalize xF 18 = yy18 at *
      try generalize xF 19 = yy19 at *
      try generalize xF 20 = yy20 at *
      try generalize xF 21 = yy21 at *
      try generalize xF 22 = yy22 at *
      try generalize xF 23 = yy23 at *
      try generalize xF 24 = yy24 at *
      try generalize xF 25 = yy25 at *
      try generalize xF 26 = yy26 at *
      try generalize xF 27 = yy27 at *
      try generalize xF 28 = yy28 at *
      try generalize xF 29 = yy29 at *
      try generalize xF 30 = yy30 at *
      try generalize xF 31 = yy31 at *
      try generalize xF 32 = yy32 at *
      try generalize xF 33 = yy33 at *
      try generalize xF 34 = yy34 at *
      try generalize xF 35 = yy35 at *
      try generalize xF 36 = yy36 at *
      try generalize xF 37 = yy37 at *
      clear xF
      obtain rfl := dd6
      obtain rfl := dd16
      obtain hbR := id hR
      rw [if_pos (by rfl)]
      go_simp
      refine hK.out _ _ ?_ ?_ ?_
      · exact Below.refl _ _
      · exact rfl
      · exact fun _ _ _ => ⟨trivial, trivial⟩
    refine FlowAll.cons ?_ ?_
    · intro xF w5 hR hd K hK
      have dd17 : ((xF 17) = .bool false) := hd 17 (by kernel_rfl)
      clear hd
      simp only [List.take_succ_cons, List.take_zero, fillOf, Act.put, List.setIfInBounds_toArray, List.set_cons_zero, List.set_cons_succ, Nat.reduceAdd, Nat.zero_add] at hK ⊢
      try generalize xF 0 = yy0 at *
      try generalize xF 1 = yy1 at *
      try generalize xF 2 = yy2 at *
      try generalize xF 3 = yy3 at *
      try generalize xF 4 = yy4 at *
      try generalize xF 5 = yy5 at *
      try generalize xF 6 = yy6 at *
      try generalize xF 7 = yy7 at *
      try generalize xF 8 = yy8 at *
      try generalize xF 9 = yy9 at *
      try generalize xF 10 = yy10 at *
      try generalize xF 11 = yy11 at *
      try generalize xF 12 = yy12 at *
      try generalize xF 13 = yy13 at *
      try generalize xF 14 = yy14 at *
      try generalize xF 15 = yy15 at *
      try generalize xF 16 = yy16 at *
      try generalize xF 17 = yy17 at *
      try generalize xF 18 = yy18 at *
      try generalize xF 19 = yy19 at *
      try generalize xF 20 = yy20 at *
      try generalize xF 21 = yy21 at *
      try generalize xF 22 = yy22 at *
      try generalize xF 23 = yy23 at *
      try generalize xF 24 = yy24 at *
      try generalize xF 25 = yy25 at *
      try generalize xF 26 = yy26 at *
      try generalize xF 27 = yy27 at *
      try generalize xF 28 = yy28 at *
      try generalize xF 29 = yy29 at *
      try generalize xF 30 = yy30 at *
      try generalize xF 31 = yy31 at *
      try generalize xF 32 = yy32 at *
      try generalize xF 33 = yy33 at *
      try generalize xF 34 = yy34 at *
      try generalize xF 35 = yy35 at *
      try generalize xF 36 = yy36 at *
      try generalize xF 37 = yy37 at *
      clear xF
      obtain rfl := dd17
      obtain hbR := id hR
      rw [if_pos (by rfl)]
      go_simp
      refine hK.out _ _ ?_ ?_ ?_
      · exact Below.refl _ _
      · exact rfl
      · exact fun _ _ _ => ⟨trivial, trivial⟩
    refine FlowAll.cons ?_ ?_
    · intro xF w5 hR hd K hK
      have dd18 : ((xF 18) = .bool false) := hd 18 (by kernel_rfl)
      clear hd
      simp only [List.take_succ_cons, List.take_zero, fillOf, Act.put, List.setIfInBounds_toArray, List.set_cons_zero, List.set_cons_succ, Nat.reduceAdd, Nat.zero_add] at hK ⊢
      try generalize xF 0 = yy0 at *
      try generalize xF 1 = yy1 at *
      try generalize xF 2 = yy2 at *
      try generalize xF 3 = yy3 at *
      try generalize xF 4 = yy4 at *
      try generalize xF 5 = yy5 at *
      try generalize xF 6 = yy6 at *
      try generalize xF 7 = yy7 at *
      try generalize xF 8 = yy8 at *
      try generalize xF 9 = yy9 at *
      try generalize xF 10 = yy10 at *
      try generalize xF 11 = yy11 at *
      try generalize xF 12 = yy12 at *
      try generalize xF 13 = yy13 at *
      try generalize xF 14 = yy14 at *
      try generalize xF 15 = yy15 at *
      try generalize xF 16 = yy16 at *
      try generalize xF 17 = yy17 at *
      try generalize xF 18 = yy18 at *
      try generalize xF 19 = yy19 at *
      try generalize xF 20 = yy20 at *
      try generalize xF 21 = yy21 at *
      try generalize xF 22 = yy22 at *
      try generalize xF 23 = yy23 at *
      try generalize xF 24 = yy24 at *
      try generalize xF 25 = yy25 at *
      try generalize xF 26 = yy26 at *
      try generalize xF 27 = yy27 at *
      try generalize xF 28 = yy28 at *
      try generalize xF 29 = yy29 at *
      try generalize xF 30 = yy30 at *
      try generalize xF 31 = yy31 at *
      try generalize xF 32 = yy32 at *
      try generalize xF 33 = yy33 at *
      try generalize xF 34 = yy34 at *
      try generalize xF 35 = yy35 at *
      try generalize xF 36 = yy36 at *
      try generalize xF 37 = yy37 at *
      clear xF
      obtain rfl := dd18
      obtain hbR := id hR
      obtain ⟨x0, y0, _, _⟩ := X0.out _ hR
      rw [if_pos (by rfl)]
      go_simp
      refine hK.out _ _ ?_ ?_ ?_
      · exact Below.refl _ _
      · exact rfl
      · exact fun _ _ _ => ⟨trivial, trivial⟩
    refine FlowAll.cons ?_ ?_
    · intro xF w5 hR hd K hK
      have dd18 : ((xF 18) = .bool false) := hd 18 (by kernel_rfl)
      clear hd
      simp only [List.take_succ_cons, List.take_zero, fillOf, Act.put, List.setIfInBounds_toArray, List.set_cons_zero, List.set_cons_succ, Nat.reduceAdd, Nat.zero_add] at hK ⊢
      try generalize xF 0 = yy0 at *
      try generalize xF 1 = yy1 at *
      try generalize xF 2 = yy2 at *
      try generalize xF 3 = yy3 at *
      try generalize xF 4 = yy4 at *
      try generalize xF 5 = yy5 at *
      try generalize xF 6 = yy6 at *
      try generalize xF 7 = yy7 at *
      try generalize xF 8 = yy8 at *
      try generalize xF 9 = yy9 at *
      try generalize xF 10 = yy10 at *
      try generalize xF 11 = yy11 at *
      try generalize xF 12 = yy12 at *
      try generalize xF 13 = yy13 at *
      try generalize xF 14 = yy14 at *
      try generalize xF 15 = yy15 at *
      try generalize xF 16 = yy16 at *
      try generalize xF 17 = yy17 at *
      try generalize xF 18 = yy18 at *
      try generalize xF 19 = yy19 at *
      try generalize xF 20 = yy20 at *
      try generalize xF 21 = yy21 at *
      try generalize xF 22 = yy22 at *
      try generalize xF 23 = yy23 at *
      try generalize xF 24 = yy24 at *
      try generalize xF 25 = yy25 at *
      try generalize xF 26 = yy26 at *
      try generalize xF 27 = yy27 at *
      try generalize xF 28 = yy28 at *
      try generalize xF 29 = yy29 at *
      try generalize xF 30 = yy30 at *
      try generalize xF 31 = yy31 at *
      try generalize xF 32 = yy32 at *
      try generalize xF 33 = yy33 at *
      try generalize xF 34 = yy34 at *
      try generalize xF 35 = yy35 at *
      try generalize xF 36 = yy36 at *
      try generalize xF 37 = yy37 at *
      clear xF
      obtain rfl := dd18
      obtain hbR := id hR
      obtain ⟨x0, y0, _, _⟩ := X0.out _ hR
      rw [if_pos (by rfl)]
      go_simp
      refine hK.out _ _ ?_ ?_ ?_
      · exact Below.refl _ _
      · exact rfl
      · exact fun _ _ _ => ⟨trivial, trivial⟩
    refine FlowAll.cons ?_ ?_
    · intro xF w5 hR hd K hK
      have dd18 : ((xF 18) = .bool false) := hd 18 (by kernel_rfl)
      have dd19 : ((xF 19) = .agg #[.slice p01 p02 p03, .slice p04 p05 p06]) := hd 19 (by kernel_rfl)
      have dd20 : ((xF 20) = .agg #[.slice p01 p02 p03, .slice p04 p05 p06]) := hd 20 (by kernel_rfl)
      clear hd
      simp only [List.take_succ_cons, List.take_zero, fillOf, Act.put, List.setIfInBounds_toArray, List.set_cons_zero, List.set_cons_succ, Nat.reduceAdd, Nat.zero_add] at hK ⊢
      try generalize xF 0 = yy0 at *
      try generalize xF 1 = yy1 at *
      try generalize xF 2 = yy2 at *
      try generalize xF 3 = yy3 at *
      try generalize xF 4 = yy4 at *
      try generalize xF 5 = yy5 at *
      try generalize xF 6 = yy6 at *
      try generalize xF 7 = yy7 at *
      try generalize xF 8 = yy8 at *
      try generalize xF 9 = yy9 at *
      try generalize xF 10 = yy10 at *
      try generalize xF 11 = yy11 at *
      try generalize xF 12 = yy12 at *
      try generalize xF 13 = yy13 at *
      try generalize xF 14 = yy14 at *
      try generalize xF 15 = yy15 at *
      try generalize xF 16 = yy16 at *
      try generalize xF 17 = yy17 at *
      try generalize xF 18 = yy18 at *
      try generalize xF 19 = yy19 at *
      try generalize xF 20 = yy20 at *
      try generalize xF 21 = yy21 at *
      try generalize xF 22 = yy22 at *
      try generalize xF 23 = yy23 at *
      try generalize xF 24 = yy24 at *
      try generalize xF 25 = yy25 at *
      try generalize xF 26 = yy26 at *
      try generalize xF 27 = yy27 at *
      try generalize xF 28 = yy28 at *
      try generalize xF 29 = yy29 at *
      try generalize xF 30 = yy30 at *
      try generalize xF 31 = yy31 at *
      try generalize xF 32 = yy32 at *
      try generalize xF 33 = yy33 at *
      try generalize xF 34 = yy34 at *
      try generalize xF 35 = yy35 at *
      try generalize xF 36 = yy36 at *
      try generalize xF 37 = yy37 at *
      clear xF
      obtain rfl := dd18
      obtain rfl := dd19
      obtain rfl := dd20
      obtain hbR := id hR
      rw [if_pos (by rfl)]
      go_simp
      (go_at_call 22; (with_reducible refine (JN.out X0.out X0.out HI0.out HI0.out (by omega) (by omega) _ hR).mono ?_); rintro e wK ⟨vK, ccK, rfl, hcK, hsK, hbK⟩)
      try go_wp2_with fail
      refine hK.out _ _ ?_ ?_ ?_
      · exact hbK
      · exact ⟨ccK, hcK, hsK.le (by omega)⟩
      · exact fun _ _ _ => ⟨trivial, trivial⟩
    refine FlowAll.cons ?_ ?_
    · intro xF w5 hR hd K hK
      have dd18 : ((xF 18) = .bool false) := hd 18 (by kernel_rfl)
      clear hd
      simp only [List.take_succ_cons, List.take_zero, fillOf, Act.put, List.setIfInBounds_toArray, List.set_cons_zero, List.set_cons_succ, Nat.reduceAdd, Nat.zero_add] at hK ⊢
      try generalize xF 0 = yy0 at *
      try generalize xF 1 = yy1 at *
      try generalize xF 2 = yy2 at *
      try generalize xF 3 = yy3 at *
      try generalize xF 4 = yy4 at *
      try generalize xF 5 = yy5 at *
      try generalize xF 6 = yy6 at *
      try generalize xF 7 = yy7 at *
      try generalize xF 8 = yy8 at *
      try generalize xF 9 = yy9 at *
      try generalize xF 10 = yy10 at *
      try generalize xF 11 = yy11 at *
      try generalize xF 12 = yy12 at *
      try generalize xF 13 = yy13 at *
      try generalize xF 14 = yy14 at *
      try generalize xF 15 = yy15 at *
      try generalize xF 16 = yy16 at *
      try generalize xF 17 = yy17 at *
      try generalize xF 18 = yy18 at *
      try generalize xF 19 = yy19 at *
      try generalize xF 20 = yy20 at *
      try generalize xF 21 = yy21 at *
      try generalize xF 22 = yy22 at *
      try generalize xF 23 = yy23 at *
      try generalize xF 24 = yy24 at *
      try generalize xF 25 = yy25 at *
      try generalize xF 26 = yy26 at *
      try generalize xF 27 = yy27 at *
      try generalize xF 28 = yy28 at *
      try generalize xF 29 = yy29 at *
      try generalize xF 30 = yy30 at *
      try generalize xF 31 = yy31 at *
      try generalize xF 32 = yy32 at *
      try generalize xF 33 = yy33 at *
      try generalize xF 34 = yy34 at *
      try generalize xF 35 = yy35 at *
      try generalize xF 36 = yy36 at *
      try generalize xF 37 = yy37 at *
      clear xF
      obtain rfl := dd18
      obtain hbR := id hR
      obtain ⟨x0, y0, _, _⟩ := X0.out _ hR
      rw [if_pos (by rfl)]
      go_simp
      refine hK.out _ _ ?_ ?_ ?_
      · exact Below.refl _ _
      · exact rfl
      · exact fun _ _ _ => ⟨trivial, trivial⟩
    refine FlowAll.cons ?_ ?_
    · intro xF w5 hR hd K hK
      have dd18 : ((xF 18) = .bool false) := hd 18 (by kernel_rfl)
      have dd21 : (∃ cc, CtxAt w5 w5.heap.size (xF 21) cc ∧ dm.Is cc (fun e => dm.Knows a e ∨ dm.Knows a e) 20000) := hd 21 (by kernel_rfl)
      have dd22 : ((xF 22) = .agg #[.slice p01 p02 p03, .slice p04 p05 p06]) := hd 22 (by kernel_rfl)
      clear hd
      simp only [List.take_succ_cons, List.take_zero, fillOf, Act.put, List.setIfInBounds_toArray, List.set_cons_zero, List.set_cons_succ, Nat.reduceAdd, Nat.zero_add] at hK ⊢
      try generalize xF 0 = yy0 at *
      try generalize xF 1 = yy1 at *
      try generalize xF 2 = yy2 at *
      try generalize xF 3 = yy3 at *
      try generalize xF 4 = yy4 at *
      try generalize xF 5 = yy5 at *
      try generalize xF 6 = yy6 at *
      try generalize xF 7 = yy7 at *
      try generalize xF 8 = yy8 at *
      try generalize xF 9 = yy9 at *
      try generalize xF 10 = yy10 at *
      try generalize xF 11 = yy11 at *
      try generalize xF 12 = yy12 at *
      try generalize xF 13 = yy13 at *
      try generalize xF 14 = yy14 at *
      try generalize xF 15 = yy15 at *
      try generalize xF 16 = yy16 at *
      try generalize xF 17 = yy17 at *
      try generalize xF 18 = yy18 at *
      try generalize xF 19 = yy19 at *
      try generalize xF 20 = yy20 at *
      try generalize xF 21 = yy21 at *
      try generalize xF 22 = yy22 at *
      try generalize xF 23 = yy23 at *
      try generalize xF 24 = yy24 at *
      try generalize xF 25 = yy25 at *
      try generalize xF 26 = yy26 at *
      try generalize xF 27 = yy27 at *
      try generalize xF 28 = yy28 at *
      try generalize xF 29 = yy29 at *
      try generalize xF 30 = yy30 at *
      try generalize xF 31 = yy31 at *
      try generalize xF 32 = yy32 at *
      try generalize xF 33 = yy33 at *
      try generalize xF 34 = yy34 at *
      try generalize xF 35 = yy35 at *
      try generalize xF 36 = yy36 at *
      try generalize xF 37 = yy37 at *
      clear xF
      obtain rfl := dd18
      obtain ⟨cc21, hc21, hs21⟩ := dd21
      obtain rfl := dd22
      obtain hbR := id hR
      rw [if_pos (by rfl)]
      go_simp
      (go_at_call 25; (with_reducible refine (SM.out _ _ _ _ _ _ _ hc21 (X0.out.get _ hR).ctx hs21 HI0.out SE3.out).mono ?_); rintro e wK ⟨rfl, hbK⟩)
      try go_wp2_with fail
      refine hK.out _ _ ?_ ?_ ?_
      · exact hbK
      · exact rfl
      · exact fun _ _ _ => ⟨trivial, trivial⟩
    refine FlowAll.cons ?_ ?_
    · intro xF w5 hR hd K hK
      have dd18 : ((xF 18) = .bool false) := hd 18 (by kernel_rfl)
      have dd23 : ((xF 23) = .bool true) := hd 23 (by kernel_rfl)
      clear hd
      simp only [List.take_succ_cons, List.take_zero, fillOf, Act.put, List.setIfInBounds_toArray, List.set_cons_zero, List.set_cons_succ, Nat.reduceAdd, Nat.zero_add] at hK ⊢
      try generalize xF 0 = yy0 at *
      try generalize xF 1 = yy1 at *
      try generalize xF 2 = yy2 at *
      try generalize xF 3 = yy3 at *
      try generalize xF 4 = yy4 at *
      try generalize xF 5 = yy5 at *
      try generalize xF 6 = yy6 at *
      try generalize xF 7 = yy7 at *
      try generalize xF 8 = yy8 at *
      try generalize xF 9 = yy9 at *
      try generalize xF 10 = yy10 at *
      try generalize xF 11 = yy11 at *
      try generalize xF 12 = yy12 at *
      try generalize xF 13 = yy13 at *
      try generalize xF 14 = yy14 at *
      try generalize xF 15 = yy15 at *
      try generalize xF 16 = yy16 at *
      try generalize xF 17 = yy17 at *
      try generalize xF 18 = yy18 at *
      try generalize xF 19 = yy19 at *
      try generalize xF 20 = yy20 at *
      try generalize xF 21 = yy21 at *
      try generalize xF 22 = yy22 at *
      try generalize xF 23 = yy23 at *
      try generalize xF 24 = yy24 at *
      try generalize xF 25 = yy25 at *
      try generalize xF 26 = yy26 at *
      try generalize xF 27 = yy27 at *
      try generalize xF 28 = yy28 at *
      try generalize xF 29 = yy29 at *
      try generalize xF 30 = yy30 at *
      try generalize xF 31 = yy31 at *
      try generalize xF 32 = yy32 at *
      try generalize xF 33 = yy33 at *
      try generalize xF 34 = yy34 at *
      try generalize xF 35 = yy35 at *
      try generalize xF 36 = yy36 at *
      try generalize xF 37 = yy37 at *
      clear xF
      obtain rfl := dd18
      obtain rfl := dd23
      obtain hbR := id hR
      rw [if_pos (by rfl)]
      go_simp
      refine hK.out _ _ ?_ ?_ ?_
      · exact Below.refl _ _
      · exact rfl
      · exact fun _ _ _ => ⟨trivial, trivial⟩
    refine FlowAll.cons ?_ ?_
    · intro xF w5 hR hd K hK
      have dd18 : ((xF 18) = .bool false) := hd 18 (by kernel_rfl)
      have dd24 : ((xF 24) = .bool false) := hd 24 (by kernel_rfl)
      clear hd
      simp only [List.take_succ_cons, List.take_zero, fillOf, Act.put, List.setIfInBounds_toArray, List.set_cons_zero, List.set_cons_succ, Nat.reduceAdd, Nat.zero_add] at hK ⊢
      try generalize xF 0 = yy0 at *
      try generalize xF 1 = yy1 at *
      try generalize xF 2 = yy2 at *
      try generalize xF 3 = yy3 at *
      try generalize xF 4 = yy4 at *
      try generalize xF 5 = yy5 at *
      try generalize xF 6 = yy6 at *
      try generalize xF 7 = yy7 at *
      try generalize xF 8 = yy8 at *
      try generalize xF 9 = yy9 at *
      try generalize xF 10 = yy10 at *
      try generalize xF 11 = yy11 at *
      try generalize xF 12 = yy12 at *
      try generalize xF 13 = yy13 at *
      try generalize xF 14 = yy14 at *
      try generalize xF 15 = yy15 at *
      try generalize xF 16 = yy16 at *
      try generalize xF 17 = yy17 at *
      try generalize xF 18 = yy18 at *
      try generalize xF 19 = yy19 at *
      try generalize xF 20 = yy20 at *
      try generalize xF 21 = yy21 at *
      try generalize xF 22 = yy22 at *
      try generalize xF 23 = yy23 at *
      try generalize xF 24 = yy24 at *
      try generalize xF 25 = yy25 at *
      try generalize xF 26 = yy26 at *
      try generalize xF 27 = yy27 at *
      try generalize xF 28 = yy28 at *
      try generalize xF 29 = yy29 at *
      try generalize xF 30 = yy30 at *
      try generalize xF 31 = yy31 at *
      try generalize xF 32 = yy32 at *
      try generalize xF 33 = yy33 at *
      try generalize xF 34 = yy34 at *
      try generalize xF 35 = yy35 at *
      try generalize xF 36 = yy36 at *
      try generalize xF 37 = yy37 at *
      clear xF
      obtain rfl := dd18
      obtain rfl := dd24
      obtain hbR := id hR
      rw [if_pos (by rfl)]
      go_simp
      refine hK.out _ _ ?_ ?_ ?_
      · exact Below.refl _ _
      · exact rfl
      · exact fun _ _ _ => ⟨trivial, trivial⟩
    refine FlowAll.cons ?_ ?_
    · intro xF w5 hR hd K hK
      have dd25 : ((xF 25) = .bool false) := hd 25 (by kernel_rfl)
      clear hd
      simp only [List.take_succ_cons, List.take_zero, fillOf, Act.put, List.setIfInBounds_toArray, List.set_cons_zero, List.set_cons_succ, Nat.reduceAdd, Nat.zero_add] at hK ⊢
      try generalize xF 0 = yy0 at *
      try generalize xF 1 = yy1 at *
      try generalize xF 2 = yy2 at *
      try generalize xF 3 = yy3 at *
      try generalize xF 4 = yy4 at *
      try generalize xF 5 = yy5 at *
      try generalize xF 6 = yy6 at *
      try generalize xF 7 = yy7 at *
      try generalize xF 8 = yy8 at *
      try generalize xF 9 = yy9 at *
      try generalize xF 10 = yy10 at *
      try generalize xF 11 = yy11 at *
      try generalize xF 12 = yy12 at *
      try generalize xF 13 = yy13 at *
      try generalize xF 14 = yy14 at *
      try generalize xF 15 = yy15 at *
      try generalize xF 16 = yy16 at *
      try generalize xF 17 = yy17 at *
      try generalize xF 18 = yy18 at *
      try generalize xF 19 = yy19 at *
      try generalize xF 20 = yy20 at *
      try generalize xF 21 = yy21 at *
      try generalize xF 22 = yy22 at *
      try generalize xF 23 = yy23 at *
      try generalize xF 24 = yy24 at *
      try generalize xF 25 = yy25 at *
      try generalize xF 26 = yy26 at *
      try generalize xF 27 = yy27 at *
      try generalize xF 28 = yy28 at *
      try generalize xF 29 = yy29 at *
      try generalize xF 30 = yy30 at *
      try generalize xF 31 = yy31 at *
      try generalize xF 32 = yy32 at *
      try generalize xF 33 = yy33 at *
      try generalize xF 34 = yy34 at *
      try generalize xF 35 = yy35 at *
      try generalize xF 36 = yy36 at *
      try generalize xF 37 = yy37 at *
      clear xF
      obtain rfl := dd25
      obtain hbR := id hR
      rw [if_pos (by rfl)]
      go_simp
      refine hK.out _ _ ?_ ?_ ?_
      · exact Below.refl _ _
      · exact rfl
      · exact fun _ _ _ => ⟨trivial, trivial⟩
    refine FlowAll.cons ?_ ?_
    · intro xF w5 hR hd K hK
      have dd26 : ((xF 26) = .bool false) := hd 26 (by kernel_rfl)
      clear hd
      simp only [List.take_succ_cons, List.take_zero, fillOf, Act.put, List.setIfInBounds_toArray, List.set_cons_zero, List.set_cons_succ, Nat.reduceAdd, Nat.zero_add] at hK ⊢
      try generalize xF 0 = yy0 at *
      try generalize xF 1 = yy1 at *
      try generalize xF 2 = yy2 at *
      try generalize xF 3 = yy3 at *
      try generalize xF 4 = yy4 at *
      try generalize xF 5 = yy5 at *
      try generalize xF 6 = yy6 at *
      try generalize xF 7 = yy7 at *
      try generalize xF 8 = yy8 at *
      try generalize xF 9 = yy9 at *
      try generalize xF 10 = yy10 at *
      try generalize xF 11 = yy11 at *
      try generalize xF 12 = yy12 at *
      try generalize xF 13 = yy13 at *
      try generalize xF 14 = yy14 at *
      try generalize xF 15 = yy15 at *
      try generalize xF 16 = yy16 at *
      try generalize xF 17 = yy17 at *
      try generalize xF 18 = yy18 at *
      try generalize xF 19 = yy19 at *
      try generalize xF 20 = yy20 at *
      try generalize xF 21 = yy21 at *
      try generalize xF 22 = yy22 at *
      try generalize xF 23 = yy23 at *
      try generalize xF 24 = yy24 at *
      try generalize xF 25 = yy25 at *
      try generalize xF 26 = yy26 at *
      try generalize xF 27 = yy27 at *
      try generalize xF 28 = yy28 at *
      try generalize xF 29 = yy29 at *
      try generalize xF 30 = yy30 at *
      try generalize xF 31 = yy31 at *
      try generalize xF 32 = yy32 at *
      try generalize xF 33 = yy33 at *
      try generalize xF 34 = yy34 at *
      try generalize xF 35 = yy35 at *
      try generalize xF 36 = yy36 at *
      try generalize xF 37 = yy37 at *
      clear xF
      obtain rfl := dd26
      obtain hbR := id hR
      obtain ⟨x3, y3, _, _⟩ := X3.out _ hR
      rw [if_pos (by rfl)]
      go_simp
      refine hK.out _ _ ?_ ?_ ?_
      · exact Below.refl _ _
      · exact rfl
      · exact fun _ _ _ => ⟨trivial, trivial⟩
    refine FlowAll.cons ?_ ?_
    · intro xF w5 hR hd K hK
      have dd26 : ((xF 26) = .bool false) := hd 26 (by kernel_rfl)
      clear hd
      simp only [List.take_succ_cons, List.take_zero, fillOf, Act.put, List.setIfInBounds_toArray, List.set_cons_zero, List.set_cons_succ, Nat.reduceAdd, Nat.zero_add] at hK ⊢
      try generalize xF 0 = yy0 at *
      try generalize xF 1 = yy1 at *
      try generalize xF 2 = yy2 at *
      try generalize xF 3 = yy3 at *
      try generalize xF 4 = yy4 at *
      try generalize xF 5 = yy5 at *
      try generalize xF 6 = yy6 at *
      try generalize xF 7 = yy7 at *
      try generalize xF 8 = yy8 at *
      try generalize xF 9 = yy9 at *
      try generalize xF 10 = yy10 at *
      try generalize xF 11 = yy11 at *
      try generalize xF 12 = yy12 at *
      try generalize xF 13 = yy13 at *
      try generalize xF 14 = yy14 at *
      try generalize xF 15 = yy15 at *
      try generalize xF 16 = yy16 at *
      try generalize xF 17 = yy17 at *
      try generalize xF 18 = yy18 at *
      try generalize xF 19 = yy19 at *
      try generalize xF 20 = yy20 at *
      try generalize xF 21 = yy21 at *
      try generalize xF 22 = yy22 at *
      try generalize xF 23 = yy23 at *
      try generalize xF 24 = yy24 at *
      try generalize xF 25 = yy25 at *
      try generalize xF 26 = yy26 at *
      try generalize xF 27 = yy27 at *
      try generalize xF 28 = yy28 at *
      try generalize xF 29 = yy29 at *
      try generalize xF 30 = yy30 at *
      try generalize xF 31 = yy31 at *
      try generalize xF 32 = yy32 at *
      try generalize xF 33 = yy33 at *
      try generalize xF 34 = yy34 at *
      try generalize xF 35 = yy35 at *
      try generalize xF 36 = yy36 at *
      try generalize xF 37 = yy37 at *
      clear xF
      obtain rfl := dd26
      obtain hbR := id hR
      obtain ⟨x0, y0, _, _⟩ := X0.out _ hR
      rw [if_pos (by rfl)]
      go_simp
      refine hK.out _ _ ?_ ?_ ?_
      · exact Below.refl _ _
      · exact rfl
      · exact fun _ _ _ => ⟨trivial, trivial⟩
    refine FlowAll.cons ?_ ?_
    · intro xF w5 hR hd K hK
      have dd26 : ((xF 26) = .bool false) := hd 26 (by kernel_rfl)
      have dd27 : ((xF 27) = .agg #[.slice p31 p32 p33, .slice p34 p35 p36]) := hd 27 (by kernel_rfl)
      have dd28 : ((xF 28) = .agg #[.slice p01 p02 p03, .slice p04 p05 p06]) := hd 28 (by kernel_rfl)
      clear hd
      simp only [List.take_succ_cons, List.take_zero, fillOf, Act.put, List.setIfInBounds_toArray, List.set_cons_zero, List.set_cons_succ, Nat.reduceAdd, Nat.zero_add] at hK ⊢
      try generalize xF 0 = yy0 at *
      try generalize xF 1 = yy1 at *
      try generalize xF 2 = yy2 at *
      try generalize xF 3 = yy3 at *
      try generalize xF 4 = yy4 at *
      try generalize xF 5 = yy5 at *
      try generalize xF 6 = yy6 at *
      try generalize xF 7 = yy7 at *
      try generalize xF 8 = yy8 at *
      try generalize xF 9 = yy9 at *
      try generalize xF 10 = yy10 at *
      try generalize xF 11 = yy11 at *
      try generalize xF 12 = yy12 at *
      try generalize xF 13 = yy13 at *
      try generalize xF 14 = yy14 at *
      try generalize xF 15 = yy15 at *
      try generalize xF 16 = yy16 at *
      try generalize xF 17 = yy17 at *
      try generalize xF 18 = yy18 at *
      try generalize xF 19 = yy19 at *
      try generalize xF 20 = yy20 at *
      try generalize xF 21 = yy21 at *
      try generalize xF 22 = yy22 at *
      try generalize xF 23 = yy23 at *
      try generalize xF 24 = yy24 at *
      try generalize xF 25 = yy25 at *
      try generalize xF 26 = yy26 at *
      try generalize xF 27 = yy27 at *
      try generalize xF 28 = yy28 at *
      try generalize xF 29 = yy29 at *
      try generalize xF 30 = yy30 at *
      try generalize xF 31 = yy31 at *
      try generalize xF 32 = yy32 at *
      try generalize xF 33 = yy33 at *
      try generalize xF 34 = yy34 at *
      try generalize xF 35 = yy35 at *
      try generalize xF 36 = yy36 at *
      try generalize xF 37 = yy37 at *
      clear xF
      obtain rfl := dd26
      obtain rfl := dd27
      obtain rfl := dd28
      obtain hbR := id hR
      rw [if_pos (by rfl)]
      go_simp
      (go_at_call 22; (with_reducible refine (JN.out X3.out X0.out HIab2.out HI0.out (by omega) (by omega) _ hR).mono ?_); rintro e wK ⟨vK, ccK, rfl, hcK, hsK, hbK⟩)
      try go_wp2_with fail
      refine hK.out _ _ ?_ ?_ ?_
      · exact hbK
      · exact ⟨ccK, hcK, hsK.le (by omega)⟩
      · exact fun _ _ _ => ⟨trivial, trivial⟩
    refine FlowAll.cons ?_ ?_
    · intro xF w5 hR hd K hK
      have dd26 : ((xF 26) = .bool false) := hd 26 (by kernel_rfl)
      clear hd
      simp only [List.take_succ_cons, List.take_zero, fillOf, Act.put, List.setIfInBounds_toArray, List.set_cons_zero, List.set_cons_succ, Nat.reduceAdd, Nat.zero_add] at hK ⊢
      try generalize xF 0 = yy0 at *
      try generalize xF 1 = yy1 at *
      try generalize xF 2 = yy2 at *
      try generalize xF 3 = yy3 at *
      try generalize xF 4 = yy4 at *
      try generalize xF 5 = yy5 at *
      try generalize xF 6 = yy6 at *
      try generalize xF 7 = yy7 at *
      try generalize xF 8 = yy8 at *
      try generalize xF 9 = yy9 at *
      try generalize xF 10 = yy10 at *
      try generalize xF 11 = yy11 at *
      try generalize xF 12 = yy12 at *
      try generalize xF 13 = yy13 at *
      try generalize xF 14 = yy14 at *
      try generalize xF 15 = yy15 at *
      try generalize xF 16 = yy16 at *
      try generalize xF 17 = yy17 at *
      try generalize xF 18 = yy18 at *
      try generalize xF 19 = yy19 at *
      try generalize xF 20 = yy20 at *
      try generalize xF 21 = yy21 at *
      try generalize xF 22 = yy22 at *
      try generalize xF 23 = yy23 at *
      try generalize xF 24 = yy24 at *
      try generalize xF 25 = yy25 at *
      try generalize xF 26 = yy26 at *
      try generalize xF 27 = yy27 at *
      try generalize xF 28 = yy28 at *
      try generalize xF 29 = yy29 at *
      try generalize xF 30 = yy30 at *
      try generalize xF 31 = yy31 at *
      try generalize xF 32 = yy32 at *
      try generalize xF 33 = yy33 at *
      try generalize xF 34 = yy34 at *
      try generalize xF 35 = yy35 at *
      try generalize xF 36 = yy36 at *
      try generalize xF 37 = yy37 at *
      clear xF
      obtain rfl := dd26
      obtain hbR := id hR
      obtain ⟨x3, y3, _, _⟩ := X3.out _ hR
      rw [if_pos (by rfl)]
      go_simp
      refine hK.out _ _ ?_ ?_ ?_
      · exact Below.refl _ _
      · exact rfl
      · exact fun _ _ _ => ⟨trivial, trivial⟩
    refine FlowAll.cons ?_ ?_
    · intro xF w5 hR hd K hK
      have dd26 : ((xF 26) = .bool false) := hd 26 (by kernel_rfl)
      have dd29 : (∃ cc, CtxAt w5 w5.heap.size (xF 29) cc ∧ dm.Is cc (fun e => dm.Knows ab e ∨ dm.Knows a e) 20000) := hd 29 (by kernel_rfl)
      have dd30 : ((xF 30) = .agg #[.slice p31 p32 p33, .slice p34 p35 p36]) := hd 30 (by kernel_rfl)
      clear hd
      simp only [List.take_succ_cons, List.take_zero, fillOf, Act.put, List.setIfInBounds_toArray, List.set_cons_zero, List.set_cons_succ, Nat.reduceAdd, Nat.zero_add] at hK ⊢
      try generalize xF 0 = yy0 at *
      try generalize xF 1 = yy1 at *
      try generalize xF 2 = yy2 at *
      try generalize xF 3 = yy3 at *
      try generalize xF 4 = yy4 at *
      try generalize xF 5 = yy5 at *
      try generalize xF 6 = yy6 at *
      try generalize xF 7 = yy7 at *
      try generalize xF 8 = yy8 at *
      try generalize xF 9 = yy9 at *
      try generalize xF 10 = yy10 at *
      try generalize xF 11 = yy11 at *
      try generalize xF 12 = yy12 at *
      try generalize xF 13 = yy13 at *
      try generalize xF 14 = yy14 at *
      try generalize xF 15 = yy15 at *
      try generalize xF 16 = yy16 at *
      try generalize xF 17 = yy17 at *
      try generalize xF 18 = yy18 at *
      try generalize xF 19 = yy19 at *
      try generalize xF 20 = yy20 at *
      try generalize xF 21 = yy21 at *
      try generalize xF 22 = yy22 at *
      try generalize xF 23 = yy23 at *
      try generalize xF 24 = yy24 at *
      try generalize xF 25 = yy25 at *
      try generalize xF 26 = yy26 at *
      try generalize xF 27 = yy27 at *
      try generalize xF 28 = yy28 at *
      try generalize xF 29 = yy29 at *
      try generalize xF 30 = yy30 at *
      try generalize xF 31 = yy31 at *
      try generalize xF 32 = yy32 at *
      try generalize xF 33 = yy33 at *
      try generalize xF 34 = yy34 at *
      try generalize xF 35 = yy35 at *
      try generalize xF 36 = yy36 at *
      try generalize xF 37 = yy37 at *
      clear xF
      obtain rfl := dd26
      obtain ⟨cc29, hc29, hs29⟩ := dd29
      obtain rfl := dd30
      obtain hbR := id hR
      rw [if_pos (by rfl)]
      go_simp
      (go_at_call 25; (with_reducible refine (SM.out _ _ _ _ _ _ _ hc29 (X3.out.get _ hR).ctx hs29 HIab.out SE4.out).mono ?_); rintro e wK ⟨rfl, hbK⟩)
      try go_wp2_with fail
      refine hK.out _ _ ?_ ?_ ?_
      · exact hbK
      · exact rfl
      · exact fun _ _ _ => ⟨trivial, trivial⟩
    refine FlowAll.cons ?_ ?_
    · intro xF w5 hR hd K hK
      have dd26 : ((xF 26) = .bool false) := hd 26 (by kernel_rfl)
      have dd31 : ((xF 31) = .bool true) := hd 31 (by kernel_rfl)
      clear hd
      simp only [List.take_succ_cons, List.take_zero, fillOf, Act.put, List.setIfInBounds_toArray, List.set_cons_zero, List.set_cons_succ, Nat.reduceAdd, Nat.zero_add] at hK ⊢
      try generalize xF 0 = yy0 at *
      try generalize xF 1 = yy1 at *
      try generalize xF 2 = yy2 at *
      try generalize xF 3 = yy3 at *
      try generalize xF 4 = yy4 at *
      try generalize xF 5 = yy5 at *
      try generalize xF 6 = yy6 at *
      try generalize xF 7 = yy7 at *
      try generalize xF 8 = yy8 at *
      try generalize xF 9 = yy9 at *
      try generalize xF 10 = yy10 at *
      try generalize xF 11 = yy11 at *
      try generalize xF 12 = yy12 at *
      try generalize xF 13 = yy13 at *
      try generalize xF 14 = yy14 at *
      try generalize xF 15 = yy15 at *
      try generalize xF 16 = yy16 at *
      try generalize xF 17 = yy17 at *
      try generalize xF 18 = yy18 at *
      try generalize xF 19 = yy19 at *
      try generalize xF 20 = yy20 at *
      try generalize xF 21 = yy21 at *
      try generalize xF 22 = yy22 at *
      try generalize xF 23 = yy23 at *
      try generalize xF 24 = yy24 at *
      try generalize xF 25 = yy25 at *
      try generalize xF 26 = yy26 at *
      try generalize xF 27 = yy27 at *
      try generalize xF 28 = yy28 at *
      try generalize xF 29 = yy29 at *
      try generalize xF 30 = yy30 at *
      try generalize xF 31 = yy31 at *
      try generalize xF 32 = yy32 at *
      try generalize xF 33 = yy33 at *
      try generalize xF 34 = yy34 at *
      try generalize xF 35 = yy35 at *
      try generalize xF 36 = yy36 at *
      try generalize xF 37 = yy37 at *
      clear xF
      obtain rfl := dd26
      obtain rfl := dd31
      obtain hbR := id hR
      rw [if_pos (by rfl)]
      go_simp
      refine hK.out _ _ ?_ ?_ ?_
      · exact Below.refl _ _
      · exact rfl
      · exact fun _ _ _ => ⟨trivial, trivial⟩
    refine FlowAll.cons ?_ ?_
    · intro xF w5 hR hd K hK
      have dd26 : ((xF 26) = .bool false) := hd 26 (by kernel_rfl)
      have dd32 : ((xF 32) = .bool false) := hd 32 (by kernel_rfl)
      clear hd
      simp only [List.take_succ_cons, List.take_zero, fillOf, Act.put, List.setIfInBounds_toArray, List.set_cons_zero, List.set_cons_succ, Nat.reduceAdd, Nat.zero_add] at hK ⊢
      try generalize xF 0 = yy0 at *
      try generalize xF 1 = yy1 at *
      try generalize xF 2 = yy2 at *
      try generalize xF 3 = yy3 at *
      try generalize xF 4 = yy4 at *
      try generalize xF 5 = yy5 at *
      try generalize xF 6 = yy6 at *
      try generalize xF 7 = yy7 at *
      try generalize xF 8 = yy8 at *
      try generalize xF 9 = yy9 at *
      try generalize xF 10 = yy10 at *
      try generalize xF 11 = yy11 at *
      try generalize xF 12 = yy12 at *
      try generalize xF 13 = yy13 at *
      try generalize xF 14 = yy14 at *
      try generalize xF 15 = yy15 at *
      try generalize xF 16 = yy16 at *
      try generalize xF 17 = yy17 at *
      try generalize xF 18 = yy18 at *
      try generalize xF 19 = yy19 at *
      try generalize xF 20 = yy20 at *
      try generalize xF 21 = yy21 at *
      try generalize xF 22 = yy22 at *
      try generalize xF 23 = yy23 at *
      try generalize xF 24 = yy24 at *
      try generalize xF 25 = yy25 at *
      try generalize xF 26 = yy26 at *
      try generalize xF 27 = yy27 at *
      try generalize xF 28 = yy28 at *
      try generalize xF 29 = yy29 at *
      try generalize xF 30 = yy30 at *
      try generalize xF 31 = yy31 at *
      try generalize xF 32 = yy32 at *
      try generalize xF 33 = yy33 at *
      try generalize xF 34 = yy34 at *
      try generalize xF 35 = yy35 at *
      try generalize xF 36 = yy36 at *
      try generalize xF 37 = yy37 at *
      clear xF
      obtain rfl := dd26
      obtain rfl := dd32
      obtain hbR := id hR
      rw [if_pos (by rfl)]
      go_simp
      refine hK.out _ _ ?_ ?_ ?_
      · exact Below.refl _ _
      · exact rfl
      · exact fun _ _ _ => ⟨trivial, trivial⟩
    refine FlowAll.cons ?_ ?_
    · intro xF w5 hR hd K hK
      have dd33 : ((xF 33) = .bool false) := hd 33 (by kernel_rfl)
      clear hd
      simp only [List.take_succ_cons, List.take_zero, fillOf, Act.put, List.setIfInBounds_toArray, List.set_cons_zero, List.set_cons_succ, Nat.reduceAdd, Nat.zero_add] at hK ⊢
      try generalize xF 0 = yy0 at *
      try generalize xF 1 = yy1 at *
      try generalize xF 2 = yy2 at *
      try generalize xF 3 = yy3 at *
      try generalize xF 4 = yy4 at *
      try generalize xF 5 = yy5 at *
      try generalize xF 6 = yy6 at *
      try generalize xF 7 = yy7 at *
      try generalize xF 8 = yy8 at *
      try generalize xF 9 = yy9 at *
      try generalize xF 10 = yy10 at *
      try generalize xF 11 = yy11 at *
      try generalize xF 12 = yy12 at *
      try generalize xF 13 = yy13 at *
      try generalize xF 14 = yy14 at *
      try generalize xF 15 = yy15 at *
      try generalize xF 16 = yy16 at *
      try generalize xF 17 = yy17 at *
      try generalize xF 18 = yy18 at *
      try generalize xF 19 = yy19 at *
      try generalize xF 20 = yy20 at *
      try generalize xF 21 = yy21 at *
      try generalize xF 22 = yy22 at *
      try generalize xF 23 = yy23 at *
      try generalize xF 24 = yy24 at *
      try generalize xF 25 = yy25 at *
      try generalize xF 26 = yy26 at *
      try generalize xF 27 = yy27 at *
      try generalize xF 28 = yy28 at *
      try generalize xF 29 = yy29 at *
      try generalize xF 30 = yy30 at *
      try generalize xF 31 = yy31 at *
      try generalize xF 32 = yy32 at *
      try generalize xF 33 = yy33 at *
      try generalize xF 34 = yy34 at *
      try generalize xF 35 = yy35 at *
      try generalize xF 36 = yy36 at *
      try generalize xF 37 = yy37 at *
      clear xF
      obtain rfl := dd33
      obtain hbR := id hR
      rw [if_pos (by rfl)]
      go_simp
      refine hK.out _ _ ?_ ?_ ?_
      · exact Below.refl _ _
      · exact rfl
      · exact fun _ _ _ => ⟨trivial, trivial⟩
    refine FlowAll.cons ?_ ?_
    · intro xF w5 hR hd K hK
      have dd34 : ((xF 34) = .bool false) := hd 34 (by kernel_rfl)
      clear hd
      simp only [List.take_succ_cons, List.take_zero, fillOf, Act.put, List.setIfInBounds_toArray, List.set_cons_zero, List.set_cons_succ, Nat.reduceAdd, Nat.zero_add] at hK ⊢
      try generalize xF 0 = yy0 at *
      try generalize xF 1 = yy1 at *
      try generalize xF 2 = yy2 at *
      try generalize xF 3 = yy3 at *
      try generalize xF 4 = yy4 at *
      try generalize xF 5 = yy5 at *
      try generalize xF 6 = yy6 at *
      try generalize xF 7 = yy7 at *
      try generalize xF 8 = yy8 at *
      try generalize xF 9 = yy9 at *
      try generalize xF 10 = yy10 at *
      try generalize xF 11 = yy11 at *
      try generalize xF 12 = yy12 at *
      try generalize xF 13 = yy13 at *
      try generalize xF 14 = yy14 at *
      try generalize xF 15 = yy15 at *
      try generalize xF 16 = yy16 at *
      try generalize xF 17 = yy17 at *
      try generalize xF 18 = yy18 at *
      try generalize xF 19 = yy19 at *
      try generalize xF 20 = yy20 at *
      try generalize xF 21 = yy21 at *
      try generalize xF 22 = yy22 at *
      try generalize xF 23 = yy23 at *
      try generalize xF 24 = yy24 at *
      try generalize xF 25 = yy25 at *
      try generalize xF 26 = yy26 at *
      try generalize xF 27 = yy27 at *
      try generalize xF 28 = yy28 at *
      try generalize xF 29 = yy29 at *
      try generalize xF 30 = yy30 at *
      try generalize xF 31 = yy31 at *
      try generalize xF 32 = yy32 at *
      try generalize xF 33 = yy33 at *
      try generalize xF 34 = yy34 at *
      try generalize xF 35 = yy35 at *
      try generalize xF 36 = yy36 at *
      try generalize xF 37 = yy37 at *
      clear xF
      obtain rfl := dd34
      obtain hbR := id hR
      obtain ⟨x3, y3, _, _⟩ := X3.out _ hR
      rw [if_pos (by rfl)]
      go_simp
      refine hK.out _ _ ?_ ?_ ?_
      · exact Below.refl _ _
      · exact rfl
      · exact fun _ _ _ => ⟨trivial, trivial⟩
    refine FlowAll.cons ?_ ?_
    · intro xF w5 hR hd K hK
      have dd34 : ((xF 34) = .bool false) := hd 34 (by kernel_rfl)
      have dd35 : ((xF 35) = .agg #[.slice p31 p32 p33, .slice p34 p35 p36]) := hd 35 (by kernel_rfl)
      clear hd
      simp only [List.take_succ_cons, List.take_zero, fillOf, Act.put, List.setIfInBounds_toArray, List.set_cons_zero, List.set_cons_succ, Nat.reduceAdd, Nat.zero_add] at hK ⊢
      try generalize xF 0 = yy0 at *
      try generalize xF 1 = yy1 at *
      try generalize xF 2 = yy2 at *
      try generalize xF 3 = yy3 at *
      try generalize xF 4 = yy4 at *
      try generalize xF 5 = yy5 at *
      try generalize xF 6 = yy6 at *
      try generalize xF 7 = yy7 at *
      try generalize xF 8 = yy8 at *
      try generalize xF 9 = yy9 at *
      try generalize xF 10 = yy10 at *
      try generalize xF 11 = yy11 at *
      try generalize xF 12 = yy12 at *
      try generalize xF 13 = yy13 at *
      try generalize xF 14 = yy14 at *
      try generalize xF 15 = yy15 at *
      try generalize xF 16 = yy16 at *
      try generalize xF 17 = yy17 at *
      try generalize xF 18 = yy18 at *
      try generalize xF 19 = yy19 at *
      try generalize xF 20 = yy20 at *
      try generalize xF 21 = yy21 at *
      try generalize xF 22 = yy22 at *
      try generalize xF 23 = yy23 at *
      try generalize xF 24 = yy24 at *
      try generalize xF 25 = yy25 at *
      try generalize xF 26 = yy26 at *
      try generalize xF 27 = yy27 at *
      try generalize xF 28 = yy28 at *
      try generalize xF 29 = yy29 at *
      try generalize xF 30 = yy30 at *
      try generalize xF 31 = yy31 at *
      try generalize xF 32 = yy32 at *
      try generalize xF 33 = yy33 at *
      try generalize xF 34 = yy34 at *
      try generalize xF 35 = yy35 at *
      try generalize xF 36 = yy36 at *
      try generalize xF 37 = yy37 at *
      clear xF
      obtain rfl := dd34
      obtain rfl := dd35
      obtain hbR := id hR
      rw [if_pos (by rfl)]
      go_simp
      (go_at_call 18; (with_reducible refine (RT.out _ hR).mono ?_); rintro e wK ⟨rfl, hbK⟩)
      try go_wp2_with fail
      refine hK.out _ _ ?_ ?_ ?_
      · exact hbK
      · exact rfl
      · exact fun _ _ _ => ⟨trivial, trivial⟩
    refine FlowAll.cons ?_ ?_
    · intro xF w5 hR hd K hK
      have dd34 : ((xF 34) = .bool false) := hd 34 (by kernel_rfl)
      have dd36 : ((xF 36) = .bool true) := hd 36 (by kernel_rfl)
      clear hd
      simp only [List.take_succ_cons, List.take_zero, fillOf, Act.put, List.setIfInBounds_toArray, List.set_cons_zero, List.set_cons_succ, Nat.reduceAdd, Nat.zero_add] at hK ⊢
      try generalize xF 0 = yy0 at *
      try generalize xF 1 = yy1 at *
      try generalize xF 2 = yy2 at *
      try generalize xF 3 = yy3 at *
      try generalize xF 4 = yy4 at *
      try generalize xF 5 = yy5 at *
      try generalize xF 6 = yy6 at *
      try generalize xF 7 = yy7 at *
      try generalize xF 8 = yy8 at *
      try generalize xF 9 = yy9 at *
      try generalize xF 10 = yy10 at *
      try generalize xF 11 = yy11 at *
      try generalize xF 12 = yy12 at *
      try generalize xF 13 = yy13 at *
      try generalize xF 14 = yy14 at *
      try generalize xF 15 = yy15 at *
      try generalize xF 16 = yy16 at *
      try generalize xF 17 = yy17 at *
      try generalize xF 18 = yy18 at *
      try generalize xF 19 = yy19 at *
      try generalize xF 20 = yy20 at *
      try generalize xF 21 = yy21 at *
      try generalize xF 22 = yy22 at *
      try generalize xF 23 = yy23 at *
      try generalize xF 24 = yy24 at *
      try generalize xF 25 = yy25 at *
      try generalize xF 26 = yy26 at *
      try generalize xF 27 = yy27 at *
      try generalize xF 28 = yy28 at *
      try generalize xF 29 = yy29 at *
      try generalize xF 30 = yy30 at *
      try generalize xF 31 = yy31 at *
      try generalize xF 32 = yy32 at *
      try generalize xF 33 = yy33 at *
      try generalize xF 34 = yy34 at *
      try generalize xF 35 = yy35 at *
      try generalize xF 36 = yy36 at *
      try generalize xF 37 = yy37 at *
      clear xF
      obtain rfl := dd34
      obtain rfl := dd36
      obtain hbR := id hR
      rw [if_pos (by rfl)]
      go_simp
      refine hK.out _ _ ?_ ?_ ?_
      · exact Below.refl _ _
      · exact rfl
      · exact fun _ _ _ => ⟨trivial, trivial⟩
    exact FlowAll.nil
  intro xF w5 hR hF hP
  clear hP
  have dd0 : ((xF 0) = .agg #[.slice p31 p32 p33, .slice p34 p35 p36]) := hF 0 (by omega) (by decide)
  have dd1 : ((xF 1) = .agg #[.slice p11 p12 p13, .slice p14 p15 p16]) := hF 1 (by omega) (by decide)
  have dd2 : ((xF 2) = .agg #[.slice p01 p02 p03, .slice p04 p05 p06]) := hF 2 (by omega) (by decide)
  have dd3 : (∃ cc, CtxAt w5 w5.heap.size (xF 3) cc ∧ dm.Is cc (fun e => dm.Knows b e ∨ dm.Knows a e) 20000) := hF 3 (by omega) (by decide)
  have dd4 : ((xF 4) = .bool true) := hF 4 (by omega) (by decide)
  have dd5 : ((xF 5) = .bool false) := hF 5 (by omega) (by decide)
  have dd6 : ((xF 6) = .bool false) := hF 6 (by omega) (by decide)
  have dd7 : ((xF 7) = .agg #[.slice p31 p32 p33, .slice p34 p35 p36]) := hF 7 (by omega) (by decide)
  have dd8 : ((xF 8) = .agg #[.slice p21 p22 p23, .slice p24 p25 p26]) := hF 8 (by omega) (by decide)
  have dd9 : (∃ cc, CtxAt w5 w5.heap.size (xF 9) cc ∧ dm.Is cc (fun e => dm.Knows ab e ∨ dm.Knows c e) 20000) := hF 9 (by omega) (by decide)
  have dd10 : ((xF 10) = .agg #[.slice p01 p02 p03, .slice p04 p05 p06]) := hF 10 (by omega) (by decide)
  have dd11 : ((xF 11) = .agg #[.slice p11 p12 p13, .slice p14 p15 p16]) := hF 11 (by omega) (by decide)
  have dd12 : ((xF 12) = .agg #[.slice p21 p22 p23, .slice p24 p25 p26]) := hF 12 (by omega) (by decide)
  have dd13 : (∃ cc, CtxAt w5 w5.heap.size (xF 13) cc ∧ dm.Is cc (fun e => dm.Knows b e ∨ dm.Knows c e) 20000) := hF 13 (by omega) (by decide)
  have dd14 : (∃ cc, CtxAt w5 w5.heap.size (xF 14) cc ∧ dm.Is cc (fun e => dm.Knows a e ∨ (dm.Knows b e ∨ dm.Knows c e)) 30000) := hF 14 (by omega) (by decide)
  have dd15 : ((xF 15) = .bool true) := hF 15 (by omega) (by decide)
  have dd16 : ((xF 16) = .bool false) := hF 16 (by omega) (by decide)
  have dd17 : ((xF 17) = .bool false) := hF 17 (by omega) (by decide)
  have dd18 : ((xF 18) = .bool false) := hF 18 (by omega) (by decide)
  have dd19 : ((xF 19) = .agg #[.slice p01 p02 p03, .slice p04 p05 p06]) := hF 19 (by omega) (by decide)
  have dd20 : ((xF 20) = .agg #[.slice p01 p02 p03, .slice p04 p05 p06]) := hF 20 (by omega) (by decide)
  have dd21 : (∃ cc, CtxAt w5 w5.heap.size (xF 21) cc ∧ dm.Is cc (fun e => dm.Knows a e ∨ dm.Knows a e) 20000) := hF 21 (by omega) (by decide)
  have dd22 : ((xF 22) = .agg #[.slice p01 p02 p03, .slice p04 p05 p06]) := hF 22 (by omega) (by decide)
  have dd23 : ((xF 23) = .bool true) := hF 23 (by omega) (by decide)
  have dd24 : ((xF 24) = .bool false) := hF 24 (by omega) (by decide)
  have dd25 : ((xF 25) = .bool false) := hF 25 (by omega) (by decide)
  have dd26 : ((xF 26) = .bool false) := hF 26 (by omega) (by decide)
  have dd27 : ((xF 27) = .agg #[.slice p31 p32 p33, .slice p34 p35 p36]) := hF 27 (by omega) (by decide)
  have dd28 : ((xF 28) = .agg #[.slice p01 p02 p03, .slice p04 p05 p06]) := hF 28 (by omega) (by decide)
  have dd29 : (∃ cc, CtxAt w5 w5.heap.size (xF 29) cc ∧ dm.Is cc (fun e => dm.Knows ab e ∨ dm.Knows a e) 20000) := hF 29 (by omega) (by decide)
  have dd30 : ((xF 30) = .agg #[.slice p31 p32 p33, .slice p34 p35 p36]) := hF 30 (by omega) (by decide)
  have dd31 : ((xF 31) = .bool true) := hF 31 (by omega) (by decide)
  have dd32 : ((xF 32) = .bool false) := hF 32 (by omega) (by decide)
  have dd33 : ((xF 33) = .bool false) := hF 33 (by omega) (by decide)
  have dd34 : ((xF 34) = .bool false) := hF 34 (by omega) (by decide)
  have dd35 : ((xF 35) = .agg #[.slice p31 p32 p33, .slice p34 p35 p36]) := hF 35 (by omega) (by decide)
  have dd36 : ((xF 36) = .bool true) := hF 36 (by omega) (by decide)
  have dd37 : ((xF 37) = .bool false) := hF 37 (by omega) (by decide)
  clear hF
  simp only [List.take_succ_cons, List.take_zero, List.drop_succ_cons, List.drop_zero, fillOf, Act.put, List.setIfInBounds_toArray, List.set_cons_zero, List.set_cons_succ, Nat.reduceAdd, Nat.zero_add]
  try generalize xF 0 = yy0 at *
  try generalize xF 1 = yy1 at *
  try generalize xF 2 = yy2 at *
  try generalize xF 3 = yy3 at *
  try generalize xF 4 = yy4 at *
  try generalize xF 5 = yy5 at *
  try generalize xF 6 = yy6 at *
  try generalize xF 7 = yy7 at *
  try generalize xF 8 = yy8 at *
  try generalize xF 9 = yy9 at *
  try generalize xF 10 = yy10 at *
  try generalize xF 11 = yy11 at *
  try generalize xF 12 = yy12 at *
  try generalize xF 13 = yy13 at *
  try generalize xF 14 = yy14 at *
  try generalize xF 15 = yy15 at *
  try generalize xF 16 = yy16 at *
  try generalize xF 17 = yy17 at *
  try generalize xF 18 = yy18 at *
  try generalize xF 19 = yy19 at *
  try generalize xF 20 = yy20 at *
  try generalize xF 21 = yy21 at *
  try generalize xF 22 = yy22 at *
  try generalize xF 23 = yy23 at *
  try generalize xF 24 = yy24 at *
  try generalize xF 25 = yy25 at *
  try generalize xF 26 = yy26 at *
  try generalize xF 27 = yy27 at *
  try generalize xF 28 = yy28 at *
  try generalize xF 29 = yy29 at *
  try generalize xF 30 = yy30 at *
  try generalize xF 31 = yy31 at *
  try generalize xF 32 = yy32 at *
  try generalize xF 33 = yy33 at *
  try generalize xF 34 = yy34 at *
  try generalize xF 35 = yy35 at *
  try generalize xF 36 = yy36 at *
  try generalize xF 37 = yy37 at *
  clear xF
  obtain rfl := dd0
  obtain rfl := dd1
  obtain rfl := dd2
  obtain ⟨cc3, hc3, hs3⟩ := dd3
  obtain rfl := dd4
  obtain rfl := dd5
  obtain rfl := dd6
  obtain rfl := dd7
  obtain rfl := dd8
  obtain ⟨cc9, hc9, hs9⟩ := dd9
  obtain rfl := dd10
  obtain rfl := dd11
  obtain rfl := dd12
  obtain ⟨cc13, hc13, hs13⟩ := dd13
  obtain ⟨cc14, hc14, hs14⟩ := dd14
  obtain rfl := dd15
  obtain rfl := dd16
  obtain rfl := dd17
  obtain rfl := dd18
  obtain rfl := dd19
  obtain rfl := dd20
  obtain ⟨cc21, hc21, hs21⟩ := dd21
  obtain rfl := dd22
  obtain rfl := dd23
  obtain rfl := dd24
  obtain rfl := dd25
  obtain rfl := dd26
  obtain rfl := dd27
  obtain rfl := dd28
  obtain ⟨cc29, hc29, hs29⟩ := dd29
  obtain rfl := dd30
  obtain rfl := dd31
  obtain rfl := dd32
  obtain rfl := dd33
  obtain rfl := dd34
  obtain rfl := dd35
  obtain rfl := dd36
  obtain rfl := dd37
  have hRE := Lib.hid hR
  clear hR
  have D5 := hRE.out
  clear hRE
  have hO0 := Lib.hid (own_none (w := w5) (W := w5) 26 (Nat.le_refl _) 2)
  have k6 : Below w5.heap.size w5 (w5.alloc (.cells #[] 26)) := ctx_below
  have HLl : Hid ((dcells l).length = nl * 2) := by show _ = _; rw [dcells_len, HNl.out]
  have HLm : Hid ((dcells m).length = nm * 2) := by show _ = _; rw [dcells_len, HNm.out]
  have HLn : Hid ((dcells n).length = nn * 2) := by show _ = _; rw [dcells_len, HNn.out]
  have HE1 := Lib.hid (Cells.news' (HDl.out _ (EW.out.trans ((D5.trans (k6.mono D5.size)).mono EW.out.size))))
  go_wp2_with (at_builtin; refine kit.appN (.tmp 75) (.tmp 76) 22 rfl rfl w5.heap.size Try.underlying22 infoDot rfl (by decide) (by decide) hO0.out rfl (dcells l) rfl HLl.out HE1.out.1 HE1.out.2 dcells_one (by omega) k6.size ?_)
  intro v6 w6 hown6 hb6
  obtain ⟨ao6, cp6, rfl⟩ := own_form hown6
  have hO6 : Hid (w6.ownsRow w5.heap.size 26 2 (.slice ao6 nl cp6) nl (dcells l)) := by show World.ownsRow _ _ _ _ _ _ _; simpa using hown6
  have k7 := k6.trans hb6
  have HE2 := Lib.hid (Cells.news' (HDm.out _ (EW.out.trans ((D5.trans (k7.mono D5.size)).mono EW.out.size))))
  clear hown6 hb6 hO0 HE1
  try rw [show 0 + nl = nl from Nat.zero_add _]
  go_wp2_with (at_builtin; refine kit.appN (.tmp 77) (.tmp 78) 22 rfl rfl w5.heap.size Try.underlying22 infoDot rfl (by decide) (by decide) hO6.out rfl (dcells m) rfl HLm.out HE2.out.1 HE2.out.2 dcells_one (by omega) k7.size ?_)
  intro v7 w7 hown7 hb7
  obtain ⟨ao7, cp7, rfl⟩ := own_form hown7
  have hO7 := Lib.hid hown7
  have k8 := k7.trans hb7
  have HE3 := Lib.hid (Cells.news' (HDn.out _ (EW.out.trans ((D5.trans (k8.mono D5.size)).mono EW.out.size))))
  clear hown7 hb7 hO6 HE2
  go_wp2_with (at_builtin; refine kit.appN (.tmp 79) (.tmp 80) 22 rfl rfl w5.heap.size Try.underlying22 infoDot rfl (by decide) (by decide) hO7.out rfl (dcells n) rfl HLn.out HE3.out.1 HE3.out.2 dcells_one (by omega) k8.size ?_)
  intro v8 W2 hown8 hb8
  obtain ⟨ao8, cp8, rfl⟩ := own_form hown8
  have k9 := k8.trans hb8
  have E2 : Below W1.heap.size W1 W2 := D5.trans (k9.mono D5.size)
  have HLL : Hid ((l ++ m ++ n).length = nl + nm + nn) := by show _ = _; rw [List.length_append, List.length_append, HNl.out, HNm.out, HNn.out]
  have HDA : Hid (Dots W2 W2.heap.size (.slice ao8 (nl + nm + nn) cp8) (l ++ m ++ n)) := by
    show Cells _ _ _ (l ++ m ++ n).length 2 (dcells (l ++ m ++ n))
    rw [HLL.out, dcells_app, dcells_app, List.append_assoc]
    exact Cells.own hown8
  have HDW : Hid (∀ W, Below W2.heap.size W2 W → Dots W W.heap.size (.slice ao8 (nl + nm + nn) cp8) (l ++ m ++ n)) := fun W hW => HDA.out.next hW
  have HAB3 : Hid (∀ (d : Dot) W, Below W2.heap.size W2 W → Calls Try.prog 16 #[.agg #[.slice p31 p32 p33, .slice p34 p35 p36], .agg #[.int .i64 d.1, .int .i64 d.2]] W (Said (dm.hasF ab d) W)) := fun d W hW => has_says X3.out d W (E2.trans (hW.mono E2.size))
  have HA3 : Hid (∀ (d : Dot) W, Below W2.heap.size W2 W → Calls Try.prog 16 #[.agg #[.slice p01 p02 p03, .slice p04 p05 p06], .agg #[.int .i64 d.1, .int .i64 d.2]] W (Said (dm.hasF a d) W)) := fun d W hW => has_says X0.out d W (E2.trans (hW.mono E2.size))
  have HB3 : Hid (∀ (d : Dot) W, Below W2.heap.size W2 W → Calls Try.prog 16 #[.agg #[.slice p11 p12 p13, .slice p14 p15 p16], .agg #[.int .i64 d.1, .int .i64 d.2]] W (Said (dm.hasF b d) W)) := fun d W hW => has_says X1.out d W (E2.trans (hW.mono E2.size))
  have HOR : Hid (∀ d, dm.hasF ab d = (dm.hasF a d || dm.hasF b d)) := fun d => by
    rw [Bool.eq_iff_iff, Bool.or_eq_true, dm.hasF_iff, dm.hasF_iff, dm.hasF_iff, HIab.out.know]
  obtain ⟨N, hN⟩ : ∃ N, N = nl + nm + nn := ⟨_, rfl⟩
  have hNi : ((N : Nat) : Int) = (nl : Int) + (nm : Int) + (nn : Int) := by rw [hN]; push_cast; rfl
  rw [← hN] at HDW HLL
  have HNI := Lib.hid hNi
  have hN8 : N ≤ 120 := by omega
  rw [← hN]
  clear hown8 hb8 hO7 HE3 HDA k6 k7 k8 k9 hN hNi D5 JN JL RT SE1 SE2 SE3 SE4
  go_wp2
  go_loopw [83, 99] (fun i _ wr => ∃ k : Nat, i = .int .i64 k ∧ k ≤ N ∧ Below W2.heap.size W2 wr) (fun i _ _ => N - (intOf i).toNat)
  case atStart => exact ⟨0, rfl, Nat.zero_le _, Below.refl _ _⟩
  case round =>
    obtain ⟨k, rfl, hk, D⟩ := hrel
    by_cases hlt : k < N
    · obtain ⟨b0, off, rfl, hB, p0, p1⟩ := Dots.get (HDW.out _ D) HLL.out.symm hlt
      obtain ⟨⟨u, v⟩, hx⟩ : ∃ x, x = (l ++ m ++ n).getD k (0, 0) := ⟨_, rfl⟩
      rw [← hx] at p0 p1
      simp only at p0 p1
      have hkI : (k : Int) < (N : Int) := by omega
      clear hx
      have hal : Below wr.heap.size wr (wr.alloc (.cells #[.int .i64 u, .int .i64 v] 26)) := ctx_below
      have c0 : (wr.alloc (.cells #[.int .i64 u, .int .i64 v] 26)).cell? ⟨wr.heap.size, 0, none⟩ = some (.int .i64 u) := World.cell?_alloc_at _ _ _ _ rfl
      have c1 : (wr.alloc (.cells #[.int .i64 u, .int .i64 v] 26)).cell? ⟨wr.heap.size, 1, none⟩ = some (.int .i64 v) := World.cell?_alloc_at _ _ _ _ rfl
      have hsz : (wr.alloc (.cells #[.int .i64 u, .int .i64 v] 26)).heap.size = wr.heap.size + 1 := World.size_alloc _ _
      have HC := Lib.hid (And.intro c0 (And.intro c1 hsz))
      have D1 := D.trans (hal.mono D.size)
      have HOR1 := Lib.hid (HOR.out (u, v))
      replace HAB3 := Lib.hid (HAB3.out (u, v))
      replace HA3 := Lib.hid (HA3.out (u, v))
      replace HB3 := Lib.hid (HB3.out (u, v))
      generalize dm.hasF ab (u, v) = rab at HAB3 HOR1
      generalize dm.hasF a (u, v) = ra at HA3 HOR1
      generalize dm.hasF b (u, v) = rb at HB3 HOR1
      clear c0 c1 hsz
      cases ra with
      | true =>
        obtain rfl : rab = true := by have := HOR1.out; simpa using this
        go_wp2_with fail
        refine wp_flow 11 (fun _ => 1000) (fun ww => RowKit.Below W2.heap.size W2 ww ∧ ww.cell? ⟨wr.heap.size, 0, none⟩ = some (.int .i64 u) ∧ ww.cell? ⟨wr.heap.size, 1, none⟩ = some (.int .i64 v) ∧ wr.heap.size < ww.heap.size) (fun _ w w' => (fun (w w' : World) => RowKit.Below w.heap.size w w') w w') (fun kF vF wF => match kF with | 0 => (vF = .agg #[.slice p31 p32 p33, .slice p34 p35 p36]) | 1 => (vF = .agg #[.int .i64 u, .int .i64 v]) | 2 => (vF = .bool true) | 3 => (vF = .agg #[.slice p01 p02 p03, .slice p04 p05 p06]) | 4 => (vF = .agg #[.int .i64 u, .int .i64 v]) | 5 => (vF = .bool true) | 6 => (vF = .bool true) | 7 => (vF = undef) | 8 => (vF = undef) | 9 => (vF = undef) | 10 => (vF = .bool true) | _ => True) (fun _ _ _ _ => True) (by kernel_rfl) (by kernel_rfl) ?_ ?_ ?_ ?_ ?_
        · exact ⟨D1.drew, HC.out.1, HC.out.2.1, by show wr.heap.size < (wr.alloc _).heap.size; rw [HC.out.2.2]; exact Nat.lt_succ_self _⟩
        · intro iF wF1 wF2 hR hT; exact ⟨hR.1.trans (hT.mono hR.1.size), (hT.cell (p := ⟨wr.heap.size, 0, none⟩) hR.2.2.2).trans hR.2.1, (hT.cell (p := ⟨wr.heap.size, 1, none⟩) hR.2.2.2).trans hR.2.2.1, Nat.lt_of_lt_of_le hR.2.2.2 hT.size⟩
        · intro kF hkF iF hiF hne hdd hanc hdan vF wF1 wF2 h hT
          rcases (by omega : kF = 0 ∨ kF = 1 ∨ kF = 2 ∨ kF = 3 ∨ kF = 4 ∨ kF = 5 ∨ kF = 6 ∨ kF = 7 ∨ kF = 8 ∨ kF = 9 ∨ kF = 10) with rfl | rfl | rfl | rfl | rfl | rfl | rfl | rfl | rfl | rfl | rfl
          · have h : (vF = .agg #[.slice p31 p32 p33, .slice p34 p35 p36]) := h
            show (vF = .agg #[.slice p31 p32 p33, .slice p34 p35 p36])
            have hT : (fun (w w' : World) => RowKit.Below w.heap.size w w') wF1 wF2 := hT
            simp only at hT
            exact h
          · have h : (vF = .agg #[.int .i64 u, .int .i64 v]) := h
            show (vF = .agg #[.int .i64 u, .int .i64 v])
            have hT : (fun (w w' : World) => RowKit.Below w.heap.size w w') wF1 wF2 := hT
            simp only at hT
            exact h
          · have h : (vF = .bool true) := h
            show (vF = .bool true)
            have hT : (fun (w w' : World) => RowKit.Below w.heap.size w w') wF1 wF2 := hT
            simp only at hT
            exact h
          · have h : (vF = .agg #[.slice p01 p02 p03, .slice p04 p05 p06]) := h
            show (vF = .agg #[.slice p01 p02 p03, .slice p04 p05 p06])
            have hT : (fun (w w' : World) => RowKit.Below w.heap.size w w') wF1 wF2 := hT
            simp only at hT
            exact h
          · have h : (vF = .agg #[.int .i64 u, .int .i64 v]) := h
            show (vF = .agg #[.int .i64 u, .int .i64 v])
            have hT : (fun (w w' : World) => RowKit.Below w.heap.size w w') wF1 wF2 := hT
            simp only at hT
            exact h
          · have h : (vF = .bool true) := h
            show (vF = .bool true)
            have hT : (fun (w w' : World) => RowKit.Below w.heap.size w w') wF1 wF2 := hT
            simp only at hT
            exact h
          · have h : (vF = .bool true) := h
            show (vF = .bool true)
            have hT : (fun (w w' : World) => RowKit.Below w.heap.size w w') wF1 wF2 := hT
            simp only at hT
            exact h
          · have h : (vF = undef) := h
            show (vF = undef)
            have hT : (fun (w w' : World) => RowKit.Below w.heap.size w w') wF1 wF2 := hT
            simp only at hT
            exact h
          · have h : (vF = undef) := h
            show (vF = undef)
            have hT : (fun (w w' : World) => RowKit.Below w.heap.size w w') wF1 wF2 := hT
            simp only at hT
            exact h
          · have h : (vF = undef) := h
            show (vF = undef)
            have hT : (fun (w w' : World) => RowKit.Below w.heap.size w w') wF1 wF2 := hT
            simp only at hT
            exact h
          · have h : (vF = .bool true) := h
            show (vF = .bool true)
            have hT : (fun (w w' : World) => RowKit.Below w.heap.size w w') wF1 wF2 := hT
            simp only at hT
            exact h
        · refine FlowAll.cons ?_ ?_
          · intro xF w10 hR hd K hK
            clear hd
            simp only [List.take_succ_cons, List.take_zero, fillOf, Act.put, List.setIfInBounds_toArray, List.set_cons_zero, List.set_cons_succ, Nat.reduceAdd, Nat.zero_add] at hK ⊢
            try generalize xF 0 = yy0 at *
            try generalize xF 1 = yy1 at *
            try generalize xF 2 = yy2 at *
            try generalize xF 3 = yy3 at *
            try generalize xF 4 = yy4 at *
            try generalize xF 5 = yy5 at *
            try generalize xF 6 = yy6 at *
            try generalize xF 7 = yy7 at *
            try generalize xF 8 = yy8 at *
            try generalize xF 9 = yy9 at *
            try generalize xF 10 = yy10 at *
            clear xF
            obtain hbR := id hR
            obtain ⟨x3, y3, _, _⟩ := X3.out _ (E2.trans (hR.1.mono E2.size))
            rw [if_pos (by rfl)]
            go_simp
            refine hK.out _ _ ?_ ?_ ?_
            · exact Below.refl _ _
            · exact rfl
            · exact fun _ _ _ => ⟨trivial, trivial⟩
          refine FlowAll.cons ?_ ?_
          · intro xF w10 hR hd K hK
            clear hd
            simp only [List.take_succ_cons, List.take_zero, fillOf, Act.put, List.setIfInBounds_toArray, List.set_cons_zero, List.set_cons_succ, Nat.reduceAdd, Nat.zero_add] at hK ⊢
            try generalize xF 0 = yy0 at *
            try generalize xF 1 = yy1 at *
            try generalize xF 2 = yy2 at *
            try generalize xF 3 = yy3 at *
            try generalize xF 4 = yy4 at *
            try generalize xF 5 = yy5 at *
            try generalize xF 6 = yy6 at *
            try generalize xF 7 = yy7 at *
            try generalize xF 8 = yy8 at *
            try generalize xF 9 = yy9 at *
            try generalize xF 10 = yy10 at *
            clear xF
            obtain hbR := id hR
            obtain ⟨_, z0, z1, _⟩ := id hR
            rw [if_pos (by rfl)]
            go_simp
            refine hK.out _ _ ?_ ?_ ?_
            · exact Below.refl _ _
            · exact rfl
            · exact fun _ _ _ => ⟨trivial, trivial⟩
          refine FlowAll.cons ?_ ?_
          · intro xF w10 hR hd K hK
            have dd0 : ((xF 0) = .agg #[.slice p31 p32 p33, .slice p34 p35 p36]) := hd 0 (by kernel_rfl)
            have dd1 : ((xF 1) = .agg #[.int .i64 u, .int .i64 v]) := hd 1 (by kernel_rfl)
            clear hd
            simp only [List.take_succ_cons, List.take_zero, fillOf, Act.put, List.setIfInBounds_toArray, List.set_cons_zero, List.set_cons_succ, Nat.reduceAdd, Nat.zero_add] at hK ⊢
            try generalize xF 0 = yy0 at *
            try generalize xF 1 = yy1 at *
            try generalize xF 2 = yy2 at *
            try generalize xF 3 = yy3 at *
            try generalize xF 4 = yy4 at *
            try generalize xF 5 = yy5 at *
            try generalize xF 6 = yy6 at *
            try generalize xF 7 = yy7 at *
            try generalize xF 8 = yy8 at *
            try generalize xF 9 = yy9 at *
            try generalize xF 10 = yy10 at *
            clear xF
            obtain rfl := dd0
            obtain rfl := dd1
            obtain hbR := id hR
            rw [if_pos (by rfl)]
            go_simp
            (go_at_call 16; (with_reducible refine (HAB3.out _ hR.1).mono ?_); rintro e wK ⟨rfl, hbK⟩)
            try go_wp2_with fail
            refine hK.out _ _ ?_ ?_ ?_
            · exact hbK
            · exact rfl
            · exact fun _ _ _ => ⟨trivial, trivial⟩
          refine FlowAll.cons ?_ ?_
          · intro xF w10 hR hd K hK
            clear hd
            simp only [List.take_succ_cons, List.take_zero, fillOf, Act.put, List.setIfInBounds_toArray, List.set_cons_zero, List.set_cons_succ, Nat.reduceAdd, Nat.zero_add] at hK ⊢
            try generalize xF 0 = yy0 at *
            try generalize xF 1 = yy1 at *
            try generalize xF 2 = yy2 at *
            try generalize xF 3 = yy3 at *
            try generalize xF 4 = yy4 at *
            try generalize xF 5 = yy5 at *
            try generalize xF 6 = yy6 at *
            try generalize xF 7 = yy7 at *
            try generalize xF 8 = yy8 at *
            try generalize xF 9 = yy9 at *
            try generalize xF 10 = yy10 at *
            clear xF
            obtain hbR := id hR
            obtain ⟨x0, y0, _, _⟩ := X0.out _ (E2.trans (hR.1.mono E2.size))
            rw [if_pos (by rfl)]
            go_simp
            refine hK.out _ _ ?_ ?_ ?_
            · exact Below.refl _ _
            · exact rfl
            · exact fun _ _ _ => ⟨trivial, trivial⟩
          refine FlowAll.cons ?_ ?_
          · intro xF w10 hR hd K hK
            clear hd
            simp only [List.take_succ_cons, List.take_zero, fillOf, Act.put, List.setIfInBounds_toArray, List.set_cons_zero, List.set_cons_succ, Nat.reduceAdd, Nat.zero_add] at hK ⊢
            try generalize xF 0 = yy0 at *
            try generalize xF 1 = yy1 at *
            try generalize xF 2 = yy2 at *
            try generalize xF 3 = yy3 at *
            try generalize xF 4 = yy4 at *
            try generalize xF 5 = yy5 at *
            try generalize xF 6 = yy6 at *
            try generalize xF 7 = yy7 at *
            try generalize xF 8 = yy8 at *
            try generalize xF 9 = yy9 at *
            try generalize xF 10 = yy10 at *
            clear xF
            obtain hbR := id hR
            obtain ⟨_, z0, z1, _⟩ := id hR
            rw [if_pos (by rfl)]
            go_simp
            refine hK.out _ _ ?_ ?_ ?_
            · exact Below.refl _ _
            · exact rfl
            · exact fun _ _ _ => ⟨trivial, trivial⟩
          refine FlowAll.cons ?_ ?_
          · intro xF w10 hR hd K hK
            have dd3 : ((xF 3) = .agg #[.slice p01 p02 p03, .slice p04 p05 p06]) := hd 3 (by kernel_rfl)
            have dd4 : ((xF 4) = .agg #[.int .i64 u, .int .i64 v]) := hd 4 (by kernel_rfl)
            clear hd
            simp only [List.take_succ_cons, List.take_zero, fillOf, Act.put, List.setIfInBounds_toArray, List.set_cons_zero, List.set_cons_succ, Nat.reduceAdd, Nat.zero_add] at hK ⊢
            try generalize xF 0 = yy0 at *
            try generalize xF 1 = yy1 at *
            try generalize xF 2 = yy2 at *
            try generalize xF 3 = yy3 at *
            try generalize xF 4 = yy4 at *
            try generalize xF 5 = yy5 at *
            try generalize xF 6 = yy6 at *
            try generalize xF 7 = yy7 at *
            try generalize xF 8 = yy8 at *
            try generalize xF 9 = yy9 at *
            try generalize xF 10 = yy10 at *
            clear xF
            obtain rfl := dd3
            obtain rfl := dd4
            obtain hbR := id hR
            rw [if_pos (by rfl)]
            go_simp
            (go_at_call 16; (with_reducible refine (HA3.out _ hR.1).mono ?_); rintro e wK ⟨rfl, hbK⟩)
            try go_wp2_with fail
            refine hK.out _ _ ?_ ?_ ?_
            · exact hbK
            · exact rfl
            · exact fun _ _ _ => ⟨trivial, trivial⟩
          refine FlowAll.cons ?_ ?_
          · intro xF w10 hR hd K hK
            have dd5 : ((xF 5) = .bool true) := hd 5 (by kernel_rfl)
            clear hd
            simp only [List.take_succ_cons, List.take_zero, fillOf, Act.put, List.setIfInBounds_toArray, List.set_cons_zero, List.set_cons_succ, Nat.reduceAdd, Nat.zero_add] at hK ⊢
            try generalize xF 0 = yy0 at *
            try generalize xF 1 = yy1 at *
            try generalize xF 2 = yy2 at *
            try generalize xF 3 = yy3 at *
            try generalize xF 4 = yy4 at *
            try generalize xF 5 = yy5 at *
            try generalize xF 6 = yy6 at *
            try generalize xF 7 = yy7 at *
            try generalize xF 8 = yy8 at *
            try generalize xF 9 = yy9 at *
            try generalize xF 10 = yy10 at *
            clear xF
            obtain rfl := dd5
            obtain hbR := id hR
            rw [if_pos (by rfl)]
            go_simp
            refine hK.out _ _ ?_ ?_ ?_
            · exact Below.refl _ _
            · exact rfl
            · exact fun _ _ _ => ⟨trivial, trivial⟩
          refine FlowAll.cons ?_ ?_
          · intro xF w10 hR hd K hK
            have dd6 : ((xF 6) = .bool true) := hd 6 (by kernel_rfl)
            clear hd
            simp only [List.take_succ_cons, List.take_zero, fillOf, Act.put, List.setIfInBounds_toArray, List.set_cons_zero, List.set_cons_succ, Nat.reduceAdd, Nat.zero_add] at hK ⊢
            try generalize xF 0 = yy0 at *
            try generalize xF 1 = yy1 at *
            try generalize xF 2 = yy2 at *
            try generalize xF 3 = yy3 at *
            try generalize xF 4 = yy4 at *
            try generalize xF 5 = yy5 at *
            try generalize xF 6 = yy6 at *
            try generalize xF 7 = yy7 at *
            try generalize xF 8 = yy8 at *
            try generalize xF 9 = yy9 at *
            try generalize xF 10 = yy10 at *
            clear xF
            obtain rfl := dd6
            obtain hbR := id hR
            rw [if_neg (by intro h; exact absurd (show false = true from h) Bool.false_ne_true)]
            try simp only [Act.put, List.setIfInBounds_toArray, List.set_cons_zero, List.set_cons_succ]
            refine hK.out _ _ ?_ ?_ ?_
            · exact Below.refl _ _
            · exact rfl
            · exact fun _ _ _ => ⟨trivial, trivial⟩
          refine FlowAll.cons ?_ ?_
          · intro xF w10 hR hd K hK
            have dd6 : ((xF 6) = .bool true) := hd 6 (by kernel_rfl)
            clear hd
            simp only [List.take_succ_cons, List.take_zero, fillOf, Act.put, List.setIfInBounds_toArray, List.set_cons_zero, List.set_cons_succ, Nat.reduceAdd, Nat.zero_add] at hK ⊢
            try generalize xF 0 = yy0 at *
            try generalize xF 1 = yy1 at *
            try generalize xF 2 = yy2 at *
            try generalize xF 3 = yy3 at *
            try generalize xF 4 = yy4 at *
            try generalize xF 5 = yy5 at *
            try generalize xF 6 = yy6 at *
            try generalize xF 7 = yy7 at *
            try generalize xF 8 = yy8 at *
            try generalize xF 9 = yy9 at *
            try generalize xF 10 = yy10 at *
            clear xF
            obtain rfl := dd6
            obtain hbR := id hR
            rw [if_neg (by intro h; exact absurd (show false = true from h) Bool.false_ne_true)]
            try simp only [Act.put, List.setIfInBounds_toArray, List.set_cons_zero, List.set_cons_succ]
            refine hK.out _ _ ?_ ?_ ?_
            · exact Below.refl _ _
            · exact rfl
            · exact fun _ _ _ => ⟨trivial, trivial⟩
          refine FlowAll.cons ?_ ?_
          · intro xF w10 hR hd K hK
            have dd6 : ((xF 6) = .bool true) := hd 6 (by kernel_rfl)
            clear hd
            simp only [List.take_succ_cons, List.take_zero, fillOf, Act.put, List.setIfInBounds_toArray, List.set_cons_zero, List.set_cons_succ, Nat.reduceAdd, Nat.zero_add] at hK ⊢
            try generalize xF 0 = yy0 at *
            try generalize xF 1 = yy1 at *
            try generalize xF 2 = yy2 at *
            try generalize xF 3 = yy3 at *
            try generalize xF 4 = yy4 at *
            try generalize xF 5 = yy5 at *
            try generalize xF 6 = yy6 at *
            try generalize xF 7 = yy7 at *
            try generalize xF 8 = yy8 at *
            try generalize xF 9 = yy9 at *
            try generalize xF 10 = yy10 at *
            clear xF
            obtain rfl := dd6
            obtain hbR := id hR
            rw [if_neg (by intro h; exact absurd (show false = true from h) Bool.false_ne_true)]
            try simp only [Act.put, List.setIfInBounds_toArray, List.set_cons_zero, List.set_cons_succ]
            refine hK.out _ _ ?_ ?_ ?_
            · exact Below.refl _ _
            · exact rfl
            · exact fun _ _ _ => ⟨trivial, trivial⟩
          refine FlowAll.cons ?_ ?_
          · intro xF w10 hR hd K hK
            have dd6 : ((xF 6) = .bool true) := hd 6 (by kernel_rfl)
            have dd9 : ((xF 9) = undef) := hd 9 (by kernel_rfl)
            clear hd
            simp only [List.take_succ_cons, List.take_zero, fillOf, Act.put, List.setIfInBounds_toArray, List.set_cons_zero, List.set_cons_succ, Nat.reduceAdd, Nat.zero_add] at hK ⊢
            try generalize xF 0 = yy0 at *
            try generalize xF 1 = yy1 at *
            try generalize xF 2 = yy2 at *
            try generalize xF 3 = yy3 at *
            try generalize xF 4 = yy4 at *
            try generalize xF 5 = yy5 at *
            try generalize xF 6 = yy6 at *
            try generalize xF 7 = yy7 at *
            try generalize xF 8 = yy8 at *
            try generalize xF 9 = yy9 at *
            try generalize xF 10 = yy10 at *
            clear xF
            obtain rfl := dd6
            obtain rfl := dd9
            obtain hbR := id hR
            rw [if_pos (by rfl)]
            go_simp
            refine hK.out _ _ ?_ ?_ ?_
            · exact Below.refl _ _
            · exact rfl
            · exact fun _ _ _ => ⟨trivial, trivial⟩
          exact FlowAll.nil
        intro xF w10 hR hF hP
        clear hP
        have dd0 : ((xF 0) = .agg #[.slice p31 p32 p33, .slice p34 p35 p36]) := hF 0 (by omega) (by decide)
        have dd1 : ((xF 1) = .agg #[.int .i64 u, .int .i64 v]) := hF 1 (by omega) (by decide)
        have dd2 : ((xF 2) = .bool true) := hF 2 (by omega) (by decide)
        have dd3 : ((xF 3) = .agg #[.slice p01 p02 p03, .slice p04 p05 p06]) := hF 3 (by omega) (by decide)
        have dd4 : ((xF 4) = .agg #[.int .i64 u, .int .i64 v]) := hF 4 (by omega) (by decide)
        have dd5 : ((xF 5) = .bool true) := hF 5 (by omega) (by decide)
        have dd6 : ((xF 6) = .bool true) := hF 6 (by omega) (by decide)
        have dd7 : ((xF 7) = undef) := hF 7 (by omega) (by decide)
        have dd8 : ((xF 8) = undef) := hF 8 (by omega) (by decide)
        have dd9 : ((xF 9) = undef) := hF 9 (by omega) (by decide)
        have dd10 : ((xF 10) = .bool true) := hF 10 (by omega) (by decide)
        clear hF
        simp only [List.take_succ_cons, List.take_zero, List.drop_succ_cons, List.drop_zero, fillOf, Act.put, List.setIfInBounds_toArray, List.set_cons_zero, List.set_cons_succ, Nat.reduceAdd, Nat.zero_add]
        try generalize xF 0 = yy0 at *
        try generalize xF 1 = yy1 at *
        try generalize xF 2 = yy2 at *
        try generalize xF 3 = yy3 at *
        try generalize xF 4 = yy4 at *
        try generalize xF 5 = yy5 at *
        try generalize xF 6 = yy6 at *
        try generalize xF 7 = yy7 at *
        try generalize xF 8 = yy8 at *
        try generalize xF 9 = yy9 at *
        try generalize xF 10 = yy10 at *
        clear xF
        obtain rfl := dd0
        obtain rfl := dd1
        obtain rfl := dd2
        obtain rfl := dd3
        obtain rfl := dd4
        obtain rfl := dd5
        obtain rfl := dd6
        obtain rfl := dd7
        obtain rfl := dd8
        obtain rfl := dd9
        obtain rfl := dd10
        have hRE := Lib.hid hR
        clear hR
        have D9 := hRE.out.1
        clear hRE
        go_wp2
        go_roundw
        case rel => exact ⟨k + 1, by go_num, by omega, D9⟩
        case measure => simp [intOf]; omega
      | false =>
        obtain rfl : rab = rb := by have := HOR1.out; simpa using this
        cases rab with
        | true =>
          go_wp2_with fail
          refine wp_flow 11 (fun _ => 1000) (fun ww => RowKit.Below W2.heap.size W2 ww ∧ ww.cell? ⟨wr.heap.size, 0, none⟩ = some (.int .i64 u) ∧ ww.cell? ⟨wr.heap.size, 1, none⟩ = some (.int .i64 v) ∧ wr.heap.size < ww.heap.size) (fun _ w w' => (fun (w w' : World) => RowKit.Below w.heap.size w w') w w') (fun kF vF wF => match kF with | 0 => (vF = .agg #[.slice p31 p32 p33, .slice p34 p35 p36]) | 1 => (vF = .agg #[.int .i64 u, .int .i64 v]) | 2 => (vF = .bool true) | 3 => (vF = .agg #[.slice p01 p02 p03, .slice p04 p05 p06]) | 4 => (vF = .agg #[.int .i64 u, .int .i64 v]) | 5 => (vF = .bool false) | 6 => (vF = .bool false) | 7 => (vF = .agg #[.slice p11 p12 p13, .slice p14 p15 p16]) | 8 => (vF = .agg #[.int .i64 u, .int .i64 v]) | 9 => (vF = .bool true) | 10 => (vF = .bool true) | _ => True) (fun _ _ _ _ => True) (by kernel_rfl) (by kernel_rfl) ?_ ?_ ?_ ?_ ?_
          · exact ⟨D1.drew, HC.out.1, HC.out.2.1, by show wr.heap.size < (wr.alloc _).heap.size; rw [HC.out.2.2]; exact Nat.lt_succ_self _⟩
          · intro iF wF1 wF2 hR hT; exact ⟨hR.1.trans (hT.mono hR.1.size), (hT.cell (p := ⟨wr.heap.size, 0, none⟩) hR.2.2.2).trans hR.2.1, (hT.cell (p := ⟨wr.heap.size, 1, none⟩) hR.2.2.2).trans hR.2.2.1, Nat.lt_of_lt_of_le hR.2.2.2 hT.size⟩
          · intro kF hkF iF hiF hne hdd hanc hdan vF wF1 wF2 h hT
            rcases (by omega : kF = 0 ∨ kF = 1 ∨ kF = 2 ∨ kF = 3 ∨ kF = 4 ∨ kF = 5 ∨ kF = 6 ∨ kF = 7 ∨ kF = 8 ∨ kF = 9 ∨ kF = 10) with rfl | rfl | rfl | rfl | rfl | rfl | rfl | rfl | rfl | rfl | rfl
            · have h : (vF = .agg #[.slice p31 p32 p33, .slice p34 p35 p36]) := h
              show (vF = .agg #[.slice p31 p32 p33, .slice p34 p35 p36])
              have hT : (fun (w w' : World) => RowKit.Below w.heap.size w w') wF1 wF2 := hT
              simp only at hT
              exact h
            · have h : (vF = .agg #[.int .i64 u, .int .i64 v]) := h
              show (vF = .agg #[.int .i64 u, .int .i64 v])
              have hT : (fun (w w' : World) => RowKit.Below w.heap.size w w') wF1 wF2 := hT
              simp only at hT
              exact h
            · have h : (vF = .bool true) := h
              show (vF = .bool true)
              have hT : (fun (w w' : World) => RowKit.Below w.heap.size w w') wF1 wF2 := hT
              simp only at hT
              exact h
            · have h : (vF = .agg #[.slice p01 p02 p03, .slice p04 p05 p06]) := h
              show (vF = .agg #[.slice p01 p02 p03, .slice p04 p05 p06])
              have hT : (fun (w w' : World) => RowKit.Below w.heap.size w w') wF1 wF2 := hT
              simp only at hT
              exact h
            · have h : (vF = .agg #[.int .i64 u, .int .i64 v]) := h
              show (vF = .agg #[.int .i64 u, .int .i64 v])
              have hT : (fun (w w' : World) => RowKit.Below w.heap.size w w') wF1 wF2 := hT
              simp only at hT
              exact h
            · have h : (vF = .bool false) := h
              show (vF = .bool false)
              have hT : (fun (w w' : World) => RowKit.Below w.heap.size w w') wF1 wF2 := hT
              simp only at hT
              exact h
            · have h : (vF = .bool false) := h
              show (vF = .bool false)
              have hT : (fun (w w' : World) => RowKit.Below w.heap.size w w') wF1 wF2 := hT
              simp only at hT
              exact h
            · have h : (vF = .agg #[.slice p11 p12 p13, .slice p14 p15 p16]) := h
              show (vF = .agg #[.slice p11 p12 p13, .slice p14 p15 p16])
              have hT : (fun (w w' : World) => RowKit.Below w.heap.size w w') wF1 wF2 := hT
              simp only at hT
              exact h
            · have h : (vF = .agg #[.int .i64 u, .int .i64 v]) := h
              show (vF = .agg #[.int .i64 u, .int .i64 v])
              have hT : (fun (w w' : World) => RowKit.Below w.heap.size w w') wF1 wF2 := hT
              simp only at hT
              exact h
            · have h : (vF = .bool true) := h
              show (vF = .bool true)
              have hT : (fun (w w' : World) => RowKit.Below w.heap.size w w') wF1 wF2 := hT
              simp only at hT
              exact h
            · have h : (vF = .bool true) := h
              show (vF = .bool true)
              have hT : (fun (w w' : World) => RowKit.Below w.heap.size w w') wF1 wF2 := hT
              simp only at hT
              exact h
          · refine FlowAll.cons ?_ ?_
            · intro xF w10 hR hd K hK
              clear hd
              simp only [List.take_succ_cons, List.take_zero, fillOf, Act.put, List.setIfInBounds_toArray, List.set_cons_zero, List.set_cons_succ, Nat.reduceAdd, Nat.zero_add] at hK ⊢
              try generalize xF 0 = yy0 at *
              try generalize xF 1 = yy1 at *
              try generalize xF 2 = yy2 at *
              try generalize xF 3 = yy3 at *
              try generalize xF 4 = yy4 at *
              try generalize xF 5 = yy5 at *
              try generalize xF 6 = yy6 at *
              try generalize xF 7 = yy7 at *
              try generalize xF 8 = yy8 at *
              try generalize xF 9 = yy9 at *
              try generalize xF 10 = yy10 at *
              clear xF
              obtain hbR := id hR
              obtain ⟨x3, y3, _, _⟩ := X3.out _ (E2.trans (hR.1.mono E2.size))
              rw [if_pos (by rfl)]
              go_simp
              refine hK.out _ _ ?_ ?_ ?_
              · exact Below.refl _ _
              · exact rfl
              · exact fun _ _ _ => ⟨trivial, trivial⟩
            refine FlowAll.cons ?_ ?_
            · intro xF w10 hR hd K hK
              clear hd
              simp only [List.take_succ_cons, List.take_zero, fillOf, Act.put, List.setIfInBounds_toArray, List.set_cons_zero, List.set_cons_succ, Nat.reduceAdd, Nat.zero_add] at hK ⊢
              try generalize xF 0 = yy0 at *
              try generalize xF 1 = yy1 at *
              try generalize xF 2 = yy2 at *
              try generalize xF 3 = yy3 at *
              try generalize xF 4 = yy4 at *
              try generalize xF 5 = yy5 at *
              try generalize xF 6 = yy6 at *
              try generalize xF 7 = yy7 at *
              try generalize xF 8 = yy8 at *
              try generalize xF 9 = yy9 at *
              try generalize xF 10 = yy10 at *
              clear xF
              obtain hbR := id hR
              obtain ⟨_, z0, z1, _⟩ := id hR
              rw [if_pos (by rfl)]
              go_simp
              refine hK.out _ _ ?_ ?_ ?_
              · exact Below.refl _ _
              · exact rfl
              · exact fun _ _ _ => ⟨trivial, trivial⟩
            refine FlowAll.cons ?_ ?_
            · intro xF w10 hR hd K hK
              have dd0 : ((xF 0) = .agg #[.slice p31 p32 p33, .slice p34 p35 p36]) := hd 0 (by kernel_rfl)
              have dd1 : ((xF 1) = .agg #[.int .i64 u, .int .i64 v]) := hd 1 (by kernel_rfl)
              clear hd
              simp only [List.take_succ_cons, List.take_zero, fillOf, Act.put, List.setIfInBounds_toArray, List.set_cons_zero, List.set_cons_succ, Nat.reduceAdd, Nat.zero_add] at hK ⊢
              try generalize xF 0 = yy0 at *
              try generalize xF 1 = yy1 at *
              try generalize xF 2 = yy2 at *
              try generalize xF 3 = yy3 at *
              try generalize xF 4 = yy4 at *
              try generalize xF 5 = yy5 at *
              try generalize xF 6 = yy6 at *
              try generalize xF 7 = yy7 at *
              try generalize xF 8 = yy8 at *
              try generalize xF 9 = yy9 at *
              try generalize xF 10 = yy10 at *
              clear xF
              obtain rfl := dd0
              obtain rfl := dd1
              obtain hbR := id hR
              rw [if_pos (by rfl)]
              go_simp
              (go_at_call 16; (with_reducible refine (HAB3.out _ hR.1).mono ?_); rintro e wK ⟨rfl, hbK⟩)
              try go_wp2_with fail
              refine hK.out _ _ ?_ ?_ ?_
              · exact hbK
              · exact rfl
              · exact fun _ _ _ => ⟨trivial, trivial⟩
            refine FlowAll.cons ?_ ?_
            · intro xF w10 hR hd K hK
              clear hd
              simp only [List.take_succ_cons, List.take_zero, fillOf, Act.put, List.setIfInBounds_toArray, List.set_cons_zero, List.set_cons_succ, Nat.reduceAdd, Nat.zero_add] at hK ⊢
              try generalize xF 0 = yy0 at *
              try generalize xF 1 = yy1 at *
              try generalize xF 2 = yy2 at *
              try generalize xF 3 = yy3 at *
              try generalize xF 4 = yy4 at *
              try generalize xF 5 = yy5 at *
              try generalize xF 6 = yy6 at *
              try generalize xF 7 = yy7 at *
              try generalize xF 8 = yy8 at *
              try generalize xF 9 = yy9 at *
              try generalize xF 10 = yy10 at *
              clear xF
              obtain hbR := id hR
              obtain ⟨x0, y0, _, _⟩ := X0.out _ (E2.trans (hR.1.mono E2.size))
              rw [if_pos (by rfl)]
              go_simp
              refine hK.out _ _ ?_ ?_ ?_
              · exact Below.refl _ _
              · exact rfl
              · exact fun _ _ _ => ⟨trivial, trivial⟩
            refine FlowAll.cons ?_ ?_
            · intro xF w10 hR hd K hK
              clear hd
              simp only [List.take_succ_cons, List.take_zero, fillOf, Act.put, List.setIfInBounds_toArray, List.set_cons_zero, List.set_cons_succ, Nat.reduceAdd, Nat.zero_add] at hK ⊢
              try generalize xF 0 = yy0 at *
              try generalize xF 1 = yy1 at *
              try generalize xF 2 = yy2 at *
              try generalize xF 3 = yy3 at *
              try generalize xF 4 = yy4 at *
              try generalize xF 5 = yy5 at *
              try generalize xF 6 = yy6 at *
              try generalize xF 7 = yy7 at *
              try generalize xF 8 = yy8 at *
              try generalize xF 9 = yy9 at *
              try generalize xF 10 = yy10 at *
              clear xF
              obtain hbR := id hR
              obtain ⟨_, z0, z1, _⟩ := id hR
              rw [if_pos (by rfl)]
              go_simp
              refine hK.out _ _ ?_ ?_ ?_
              · exact Below.refl _ _
              · exact rfl
              · exact fun _ _ _ => ⟨trivial, trivial⟩
            refine FlowAll.cons ?_ ?_
            · intro xF w10 hR hd K hK
              have dd3 : ((xF 3) = .agg #[.slice p01 p02 p03, .slice p04 p05 p06]) := hd 3 (by kernel_rfl)
              have dd4 : ((xF 4) = .agg #[.int .i64 u, .int .i64 v]) := hd 4 (by kernel_rfl)
              clear hd
              simp only [List.take_succ_cons, List.take_zero, fillOf, Act.put, List.setIfInBounds_toArray, List.set_cons_zero, List.set_cons_succ, Nat.reduceAdd, Nat.zero_add] at hK ⊢
              try generalize xF 0 = yy0 at *
              try generalize xF 1 = yy1 at *
              try generalize xF 2 = yy2 at *
              try generalize xF 3 = yy3 at *
              try generalize xF 4 = yy4 at *
              try generalize xF 5 = yy5 at *
              try generalize xF 6 = yy6 at *
              try generalize xF 7 = yy7 at *
              try generalize xF 8 = yy8 at *
              try generalize xF 9 = yy9 at *
              try generalize xF 10 = yy10 at *
              clear xF
              obtain rfl := dd3
              obtain rfl := dd4
              obtain hbR := id hR
              rw [if_pos (by rfl)]
              go_simp
              (go_at_call 16; (with_reducible refine (HA3.out _ hR.1).mono ?_); rintro e wK ⟨rfl, hbK⟩)
              try go_wp2_with fail
              refine hK.out _ _ ?_ ?_ ?_
              · exact hbK
              · exact rfl
              · exact fun _ _ _ => ⟨trivial, trivial⟩
            refine FlowAll.cons ?_ ?_
            · intro xF w10 hR hd K hK
              have dd5 : ((xF 5) = .bool false) := hd 5 (by kernel_rfl)
              clear hd
              simp only [List.take_succ_cons, List.take_zero, fillOf, Act.put, List.setIfInBounds_toArray, List.set_cons_zero, List.set_cons_succ, Nat.reduceAdd, Nat.zero_add] at hK ⊢
              try generalize xF 0 = yy0 at *
              try generalize xF 1 = yy1 at *
              try generalize xF 2 = yy2 at *
              try generalize xF 3 = yy3 at *
              try generalize xF 4 = yy4 at *
              try generalize xF 5 = yy5 at *
              try generalize xF 6 = yy6 at *
              try generalize xF 7 = yy7 at *
              try generalize xF 8 = yy8 at *
              try generalize xF 9 = yy9 at *
              try generalize xF 10 = yy10 at *
              clear xF
              obtain rfl := dd5
              obtain hbR := id hR
              rw [if_pos (by rfl)]
              go_simp
              refine hK.out _ _ ?_ ?_ ?_
              · exact Below.refl _ _
              · exact rfl
              · exact fun _ _ _ => ⟨trivial, trivial⟩
            refine FlowAll.cons ?_ ?_
            · intro xF w10 hR hd K hK
              have dd6 : ((xF 6) = .bool false) := hd 6 (by kernel_rfl)
              clear hd
              simp only [List.take_succ_cons, List.take_zero, fillOf, Act.put, List.setIfInBounds_toArray, List.set_cons_zero, List.set_cons_succ, Nat.reduceAdd, Nat.zero_add] at hK ⊢
              try generalize xF 0 = yy0 at *
              try generalize xF 1 = yy1 at *
              try generalize xF 2 = yy2 at *
              try generalize xF 3 = yy3 at *
              try generalize xF 4 = yy4 at *
              try generalize xF 5 = yy5 at *
              try generalize xF 6 = yy6 at *
              try generalize xF 7 = yy7 at *
              try generalize xF 8 = yy8 at *
              try generalize xF 9 = yy9 at *
              try generalize xF 10 = yy10 at *
              clear xF
              obtain rfl := dd6
              obtain hbR := id hR
              obtain ⟨x1, y1, _, _⟩ := X1.out _ (E2.trans (hR.1.mono E2.size))
              rw [if_pos (by rfl)]
              go_simp
              refine hK.out _ _ ?_ ?_ ?_
              · exact Below.refl _ _
              · exact rfl
              · exact fun _ _ _ => ⟨trivial, trivial⟩
            refine FlowAll.cons ?_ ?_
            · intro xF w10 hR hd K hK
              have dd6 : ((xF 6) = .bool false) := hd 6 (by kernel_rfl)
              clear hd
              simp only [List.take_succ_cons, List.take_zero, fillOf, Act.put, List.setIfInBounds_toArray, List.set_cons_zero, List.set_cons_succ, Nat.reduceAdd, Nat.zero_add] at hK ⊢
              try generalize xF 0 = yy0 at *
              try generalize xF 1 = yy1 at *
              try generalize xF 2 = yy2 at *
              try generalize xF 3 = yy3 at *
              try generalize xF 4 = yy4 at *
              try generalize xF 5 = yy5 at *
              try generalize xF 6 = yy6 at *
              try generalize xF 7 = yy7 at *
              try generalize xF 8 = yy8 at *
              try generalize xF 9 = yy9 at *
              try generalize xF 10 = yy10 at *
              clear xF
              obtain rfl := dd6
              obtain hbR := id hR
              obtain ⟨_, z0, z1, _⟩ := id hR
              rw [if_pos (by rfl)]
              go_simp
              refine hK.out _ _ ?_ ?_ ?_
              · exact Below.refl _ _
              · exact rfl
              · exact fun _ _ _ => ⟨trivial, trivial⟩
            refine FlowAll.cons ?_ ?_
            · intro xF w10 hR hd K hK
              have dd6 : ((xF 6) = .bool false) := hd 6 (by kernel_rfl)
              have dd7 : ((xF 7) = .agg #[.slice p11 p12 p13, .slice p14 p15 p16]) := hd 7 (by kernel_rfl)
              have dd8 : ((xF 8) = .agg #[.int .i64 u, .int .i64 v]) := hd 8 (by kernel_rfl)
              clear hd
              simp only [List.take_succ_cons, List.take_zero, fillOf, Act.put, List.setIfInBounds_toArray, List.set_cons_zero, List.set_cons_succ, Nat.reduceAdd, Nat.zero_add] at hK ⊢
              try generalize xF 0 = yy0 at *
              try generalize xF 1 = yy1 at *
              try generalize xF 2 = yy2 at *
              try generalize xF 3 = yy3 at *
              try generalize xF 4 = yy4 at *
              try generalize xF 5 = yy5 at *
              try generalize xF 6 = yy6 at *
              try generalize xF 7 = yy7 at *
              try generalize xF 8 = yy8 at *
              try generalize xF 9 = yy9 at *
              try generalize xF 10 = yy10 at *
              clear xF
              obtain rfl := dd6
              obtain rfl := dd7
              obtain rfl := dd8
              obtain hbR := id hR
              rw [if_pos (by rfl)]
              go_simp
              (go_at_call 16; (with_reducible refine (HB3.out _ hR.1).mono ?_); rintro e wK ⟨rfl, hbK⟩)
              try go_wp2_with fail
              refine hK.out _ _ ?_ ?_ ?_
              · exact hbK
              · exact rfl
              · exact fun _ _ _ => ⟨trivial, trivial⟩
            refine FlowAll.cons ?_ ?_
            · intro xF w10 hR hd K hK
              have dd6 : ((xF 6) = .bool false) := hd 6 (by kernel_rfl)
              have dd9 : ((xF 9) = .bool true) := hd 9 (by kernel_rfl)
              clear hd
              simp only [List.take_succ_cons, List.take_zero, fillOf, Act.put, List.setIfInBounds_toArray, List.set_cons_zero, List.set_cons_succ, Nat.reduceAdd, Nat.zero_add] at hK ⊢
              try generalize xF 0 = yy0 at *
              try generalize xF 1 = yy1 at *
              try generalize xF 2 = yy2 at *
              try generalize xF 3 = yy3 at *
              try generalize xF 4 = yy4 at *
              try generalize xF 5 = yy5 at *
              try generalize xF 6 = yy6 at *
              try generalize xF 7 = yy7 at *
              try generalize xF 8 = yy8 at *
              try generalize xF 9 = yy9 at *
              try generalize xF 10 = yy10 at *
              clear xF
              obtain rfl := dd6
              obtain rfl := dd9
              obtain hbR := id hR
              rw [if_pos (by rfl)]
              go_simp
              refine hK.out _ _ ?_ ?_ ?_
              · exact Below.refl _ _
              · exact rfl
              · exact fun _ _ _ => ⟨trivial, trivial⟩
            exact FlowAll.nil
          intro xF w10 hR hF hP
          clear hP
          have dd0 : ((xF 0) = .agg #[.slice p31 p32 p33, .slice p34 p35 p36]) := hF 0 (by omega) (by decide)
          have dd1 : ((xF 1) = .agg #[.int .i64 u, .int .i64 v]) := hF 1 (by omega) (by decide)
          have dd2 : ((xF 2) = .bool true) := hF 2 (by omega) (by decide)
          have dd3 : ((xF 3) = .agg #[.slice p01 p02 p03, .slice p04 p05 p06]) := hF 3 (by omega) (by decide)
          have dd4 : ((xF 4) = .agg #[.int .i64 u, .int .i64 v]) := hF 4 (by omega) (by decide)
          have dd5 : ((xF 5) = .bool false) := hF 5 (by omega) (by decide)
          have dd6 : ((xF 6) = .bool false) := hF 6 (by omega) (by decide)
          have dd7 : ((xF 7) = .agg #[.slice p11 p12 p13, .slice p14 p15 p16]) := hF 7 (by omega) (by decide)
          have dd8 : ((xF 8) = .agg #[.int .i64 u, .int .i64 v]) := hF 8 (by omega) (by decide)
          have dd9 : ((xF 9) = .bool true) := hF 9 (by omega) (by decide)
          have dd10 : ((xF 10) = .bool true) := hF 10 (by omega) (by decide)
          clear hF
          simp only [List.take_succ_cons, List.take_zero, List.drop_succ_cons, List.drop_zero, fillOf, Act.put, List.setIfInBounds_toArray, List.set_cons_zero, List.set_cons_succ, Nat.reduceAdd, Nat.zero_add]
          try generalize xF 0 = yy0 at *
          try generalize xF 1 = yy1 at *
          try generalize xF 2 = yy2 at *
          try generalize xF 3 = yy3 at *
          try generalize xF 4 = yy4 at *
          try generalize xF 5 = yy5 at *
          try generalize xF 6 = yy6 at *
          try generalize xF 7 = yy7 at *
          try generalize xF 8 = yy8 at *
          try generalize xF 9 = yy9 at *
          try generalize xF 10 = yy10 at *
          clear xF
          obtain rfl := dd0
          obtain rfl := dd1
          obtain rfl := dd2
          obtain rfl := dd3
          obtain rfl := dd4
          obtain rfl := dd5
          obtain rfl := dd6
          obtain rfl := dd7
          obtain rfl := dd8
          obtain rfl := dd9
          obtain rfl := dd10
          have hRE := Lib.hid hR
          clear hR
          have D9 := hRE.out.1
          clear hRE
          go_wp2
          go_roundw
          case rel => exact ⟨k + 1, by go_num, by omega, D9⟩
          case measure => simp [intOf]; omega
        | false =>
          go_wp2_with fail
          refine wp_flow 11 (fun _ => 1000) (fun ww => RowKit.Below W2.heap.size W2 ww ∧ ww.cell? ⟨wr.heap.size, 0, none⟩ = some (.int .i64 u) ∧ ww.cell? ⟨wr.heap.size, 1, none⟩ = some (.int .i64 v) ∧ wr.heap.size < ww.heap.size) (fun _ w w' => (fun (w w' : World) => RowKit.Below w.heap.size w w') w w') (fun kF vF wF => match kF with | 0 => (vF = .agg #[.slice p31 p32 p33, .slice p34 p35 p36]) | 1 => (vF = .agg #[.int .i64 u, .int .i64 v]) | 2 => (vF = .bool false) | 3 => (vF = .agg #[.slice p01 p02 p03, .slice p04 p05 p06]) | 4 => (vF = .agg #[.int .i64 u, .int .i64 v]) | 5 => (vF = .bool false) | 6 => (vF = .bool false) | 7 => (vF = .agg #[.slice p11 p12 p13, .slice p14 p15 p16]) | 8 => (vF = .agg #[.int .i64 u, .int .i64 v]) | 9 => (vF = .bool false) | 10 => (vF = .bool false) | _ => True) (fun _ _ _ _ => True) (by kernel_rfl) (by kernel_rfl) ?_ ?_ ?_ ?_ ?_
          · exact ⟨D1.drew, HC.out.1, HC.out.2.1, by show wr.heap.size < (wr.alloc _).heap.size; rw [HC.out.2.2]; exact Nat.lt_succ_self _⟩
          · intro iF wF1 wF2 hR hT; exact ⟨hR.1.trans (hT.mono hR.1.size), (hT.cell (p := ⟨wr.heap.size, 0, none⟩) hR.2.2.2).trans hR.2.1, (hT.cell (p := ⟨wr.heap.size, 1, none⟩) hR.2.2.2).trans hR.2.2.1, Nat.lt_of_lt_of_le hR.2.2.2 hT.size⟩
          · intro kF hkF iF hiF hne hdd hanc hdan vF wF1 wF2 h hT
            rcases (by omega : kF = 0 ∨ kF = 1 ∨ kF = 2 ∨ kF = 3 ∨ kF = 4 ∨ kF = 5 ∨ kF = 6 ∨ kF = 7 ∨ kF = 8 ∨ kF = 9 ∨ kF = 10) with rfl | rfl | rfl | rfl | rfl | rfl | rfl | rfl | rfl | rfl | rfl
            · have h : (vF = .agg #[.slice p31 p32 p33, .slice p34 p35 p36]) := h
              show (vF = .agg #[.slice p31 p32 p33, .slice p34 p35 p36])
              have hT : (fun (w w' : World) => RowKit.Below w.heap.size w w') wF1 wF2 := hT
              simp only at hT
              exact h
            · have h : (vF = .agg #[.int .i64 u, .int .i64 v]) := h
              show (vF = .agg #[.int .i64 u, .int .i64 v])
              have hT : (fun (w w' : World) => RowKit.Below w.heap.size w w') wF1 wF2 := hT
              simp only at hT
              exact h
            · have h : (vF = .bool false) := h
              show (vF = .bool false)
              have hT : (fun (w w' : World) => RowKit.Below w.heap.size w w') wF1 wF2 := hT
              simp only at hT
              exact h
            · have h : (vF = .agg #[.slice p01 p02 p03, .slice p04 p05 p06]) := h
              show (vF = .agg #[.slice p01 p02 p03, .slice p04 p05 p06])
              have hT : (fun (w w' : World) => RowKit.Below w.heap.size w w') wF1 wF2 := hT
              simp only at hT
              exact h
            · have h : (vF = .agg #[.int .i64 u, .int .i64 v]) := h
              show (vF = .agg #[.int .i64 u, .int .i64 v])
              have hT : (fun (w w' : World) => RowKit.Below w.heap.size w w') wF1 wF2 := hT
              simp only at hT
              exact h
            · have h : (vF = .bool false) := h
              show (vF = .bool false)
              have hT : (fun (w w' : World) => RowKit.Below w.heap.size w w') wF1 wF2 := hT
              simp only at hT
              exact h
            · have h : (vF = .bool false) := h
              show (vF = .bool false)
              have hT : (fun (w w' : World) => RowKit.Below w.heap.size w w') wF1 wF2 := hT
              simp only at hT
              exact h
            · have h : (vF = .agg #[.slice p11 p12 p13, .slice p14 p15 p16]) := h
              show (vF = .agg #[.slice p11 p12 p13, .slice p14 p15 p16])
              have hT : (fun (w w' : World) => RowKit.Below w.heap.size w w') wF1 wF2 := hT
              simp only at hT
              exact h
            · have h : (vF = .agg #[.int .i64 u, .int .i64 v]) := h
              show (vF = .agg #[.int .i64 u, .int .i64 v])
              have hT : (fun (w w' : World) => RowKit.Below w.heap.size w w') wF1 wF2 := hT
              simp only at hT
              exact h
            · have h : (vF = .bool false) := h
              show (vF = .bool false)
              have hT : (fun (w w' : World) => RowKit.Below w.heap.size w w') wF1 wF2 := hT
              simp only at hT
              exact h
            · have h : (vF = .bool false) := h
              show (vF = .bool false)
              have hT : (fun (w w' : World) => RowKit.Below w.heap.size w w') wF1 wF2 := hT
              simp only at hT
              exact h
          · refine FlowAll.cons ?_ ?_
            · intro xF w10 hR hd K hK
              clear hd
              simp only [List.take_succ_cons, List.take_zero, fillOf, Act.put, List.setIfInBounds_toArray, List.set_cons_zero, List.set_cons_succ, Nat.reduceAdd, Nat.zero_add] at hK ⊢
              try generalize xF 0 = yy0 at *
              try generalize xF 1 = yy1 at *
              try generalize xF 2 = yy2 at *
              try generalize xF 3 = yy3 at *
              try generalize xF 4 = yy4 at *
              try generalize xF 5 = yy5 at *
              try generalize xF 6 = yy6 at *
              try generalize xF 7 = yy7 at *
              try generalize xF 8 = yy8 at *
              try generalize xF 9 = yy9 at *
              try generalize xF 10 = yy10 at *
              clear xF
              obtain hbR := id hR
              obtain ⟨x3, y3, _, _⟩ := X3.out _ (E2.trans (hR.1.mono E2.size))
              rw [if_pos (by rfl)]
              go_simp
              refine hK.out _ _ ?_ ?_ ?_
              · exact Below.refl _ _
              · exact rfl
              · exact fun _ _ _ => ⟨trivial, trivial⟩
            refine FlowAll.cons ?_ ?_
            · intro xF w10 hR hd K hK
              clear hd
              simp only [List.take_succ_cons, List.take_zero, fillOf, Act.put, List.setIfInBounds_toArray, List.set_cons_zero, List.set_cons_succ, Nat.reduceAdd, Nat.zero_add] at hK ⊢
              try generalize xF 0 = yy0 at *
              try generalize xF 1 = yy1 at *
              try generalize xF 2 = yy2 at *
              try generalize xF 3 = yy3 at *
              try generalize xF 4 = yy4 at *
              try generalize xF 5 = yy5 at *
              try generalize xF 6 = yy6 at *
              try generalize xF 7 = yy7 at *
              try generalize xF 8 = yy8 at *
              try generalize xF 9 = yy9 at *
              try generalize xF 10 = yy10 at *
              clear xF
              obtain hbR := id hR
              obtain ⟨_, z0, z1, _⟩ := id hR
              rw [if_pos (by rfl)]
              go_simp
              refine hK.out _ _ ?_ ?_ ?_
              · exact Below.refl _ _
              · exact rfl
              · exact fun _ _ _ => ⟨trivial, trivial⟩
            refine FlowAll.cons ?_ ?_
            · intro xF w10 hR hd K hK
              have dd0 : ((xF 0) = .agg #[.slice p31 p32 p33, .slice p34 p35 p36]) := hd 0 (by kernel_rfl)
              have dd1 : ((xF 1) = .agg #[.int .i64 u, .int .i64 v]) := hd 1 (by kernel_rfl)
              clear hd
              simp only [List.take_succ_cons, List.take_zero, fillOf, Act.put, List.setIfInBounds_toArray, List.set_cons_zero, List.set_cons_succ, Nat.reduceAdd, Nat.zero_add] at hK ⊢
              try generalize xF 0 = yy0 at *
              try generalize xF 1 = yy1 at *
              try generalize xF 2 = yy2 at *
              try generalize xF 3 = yy3 at *
              try generalize xF 4 = yy4 at *
              try generalize xF 5 = yy5 at *
              try generalize xF 6 = yy6 at *
              try generalize xF 7 = yy7 at *
              try generalize xF 8 = yy8 at *
              try generalize xF 9 = yy9 at *
              try generalize xF 10 = yy10 at *
              clear xF
              obtain rfl := dd0
              obtain rfl := dd1
              obtain hbR := id hR
              rw [if_pos (by rfl)]
              go_simp
              (go_at_call 16; (with_reducible refine (HAB3.out _ hR.1).mono ?_); rintro e wK ⟨rfl, hbK⟩)
              try go_wp2_with fail
              refine hK.out _ _ ?_ ?_ ?_
              · exact hbK
              · exact rfl
              · exact fun _ _ _ => ⟨trivial, trivial⟩
            refine FlowAll.cons ?_ ?_
            · intro xF w10 hR hd K hK
              clear hd
              simp only [List.take_succ_cons, List.take_zero, fillOf, Act.put, List.setIfInBounds_toArray, List.set_cons_zero, List.set_cons_succ, Nat.reduceAdd, Nat.zero_add] at hK ⊢
              try generalize xF 0 = yy0 at *
              try generalize xF 1 = yy1 at *
              try generalize xF 2 = yy2 at *
              try generalize xF 3 = yy3 at *
              try generalize xF 4 = yy4 at *
              try generalize xF 5 = yy5 at *
              try generalize xF 6 = yy6 at *
              try generalize xF 7 = yy7 at *
              try generalize xF 8 = yy8 at *
              try generalize xF 9 = yy9 at *
              try generalize xF 10 = yy10 at *
              clear xF
              obtain hbR := id hR
              obtain ⟨x0, y0, _, _⟩ := X0.out _ (E2.trans (hR.1.mono E2.size))
              rw [if_pos (by rfl)]
              go_simp
              refine hK.out _ _ ?_ ?_ ?_
              · exact Below.refl _ _
              · exact rfl
              · exact fun _ _ _ => ⟨trivial, trivial⟩
            refine FlowAll.cons ?_ ?_
            · intro xF w10 hR hd K hK
              clear hd
              simp only [List.take_succ_cons, List.take_zero, fillOf, Act.put, List.setIfInBounds_toArray, List.set_cons_zero, List.set_cons_succ, Nat.reduceAdd, Nat.zero_add] at hK ⊢
              try generalize xF 0 = yy0 at *
              try generalize xF 1 = yy1 at *
              try generalize xF 2 = yy2 at *
              try generalize xF 3 = yy3 at *
              try generalize xF 4 = yy4 at *
              try generalize xF 5 = yy5 at *
              try generalize xF 6 = yy6 at *
              try generalize xF 7 = yy7 at *
              try generalize xF 8 = yy8 at *
              try generalize xF 9 = yy9 at *
              try generalize xF 10 = yy10 at *
              clear xF
              obtain hbR := id hR
              obtain ⟨_, z0, z1, _⟩ := id hR
              rw [if_pos (by rfl)]
              go_simp
              refine hK.out _ _ ?_ ?_ ?_
              · exact Below.refl _ _
              · exact rfl
              · exact fun _ _ _ => ⟨trivial, trivial⟩
            refine FlowAll.cons ?_ ?_
            · intro xF w10 hR hd K hK
              have dd3 : ((xF 3) = .agg #[.slice p01 p02 p03, .slice p04 p05 p06]) := hd 3 (by kernel_rfl)
              have dd4 : ((xF 4) = .agg #[.int .i64 u, .int .i64 v]) := hd 4 (by kernel_rfl)
              clear hd
              simp only [List.take_succ_cons, List.take_zero, fillOf, Act.put, List.setIfInBounds_toArray, List.set_cons_zero, List.set_cons_succ, Nat.reduceAdd, Nat.zero_add] at hK ⊢
              try generalize xF 0 = yy0 at *
              try generalize xF 1 = yy1 at *
              try generalize xF 2 = yy2 at *
              try generalize xF 3 = yy3 at *
              try generalize xF 4 = yy4 at *
              try generalize xF 5 = yy5 at *
              try generalize xF 6 = yy6 at *
              try generalize xF 7 = yy7 at *
              try generalize xF 8 = yy8 at *
              try generalize xF 9 = yy9 at *
              try generalize xF 10 = yy10 at *
              clear xF
              obtain rfl := dd3
              obtain rfl := dd4
              obtain hbR := id hR
              rw [if_pos (by rfl)]
              go_simp
              (go_at_call 16; (with_reducible refine (HA3.out _ hR.1).mono ?_); rintro e wK ⟨rfl, hbK⟩)
              try go_wp2_with fail
              refine hK.out _ _ ?_ ?_ ?_
              · exact hbK
              · exact rfl
              · exact fun _ _ _ => ⟨trivial, trivial⟩
            refine FlowAll.cons ?_ ?_
            · intro xF w10 hR hd K hK
              have dd5 : ((xF 5) = .bool false) := hd 5 (by kernel_rfl)
              clear hd
              simp only [List.take_succ_cons, List.take_zero, fillOf, Act.put, List.setIfInBounds_toArray, List.set_cons_zero, List.set_cons_succ, Nat.reduceAdd, Nat.zero_add] at hK ⊢
              try generalize xF 0 = yy0 at *
              try generalize xF 1 = yy1 at *
              try generalize xF 2 = yy2 at *
              try generalize xF 3 = yy3 at *
              try generalize xF 4 = yy4 at *
              try generalize xF 5 = yy5 at *
              try generalize xF 6 = yy6 at *
              try generalize xF 7 = yy7 at *
              try generalize xF 8 = yy8 at *
              try generalize xF 9 = yy9 at *
              try generalize xF 10 = yy10 at *
              clear xF
              obtain rfl := dd5
              obtain hbR := id hR
              rw [if_pos (by rfl)]
              go_simp
              refine hK.out _ _ ?_ ?_ ?_
              · exact Below.refl _ _
              · exact rfl
              · exact fun _ _ _ => ⟨trivial, trivial⟩
            refine FlowAll.cons ?_ ?_
            · intro xF w10 hR hd K hK
              have dd6 : ((xF 6) = .bool false) := hd 6 (by kernel_rfl)
              clear hd
              simp only [List.take_succ_cons, List.take_zero, fillOf, Act.put, List.setIfInBounds_toArray, List.set_cons_zero, List.set_cons_succ, Nat.reduceAdd, Nat.zero_add] at hK ⊢
              try generalize xF 0 = yy0 at *
              try generalize xF 1 = yy1 at *
              try generalize xF 2 = yy2 at *
              try generalize xF 3 = yy3 at *
              try generalize xF 4 = yy4 at *
              try generalize xF 5 = yy5 at *
              try generalize xF 6 = yy6 at *
              try generalize xF 7 = yy7 at *
              try generalize xF 8 = yy8 at *
              try generalize xF 9 = yy9 at *
              try generalize xF 10 = yy10 at *
              clear xF
              obtain rfl := dd6
              obtain hbR := id hR
              obtain ⟨x1, y1, _, _⟩ := X1.out _ (E2.trans (hR.1.mono E2.size))
              rw [if_pos (by rfl)]
              go_simp
              refine hK.out _ _ ?_ ?_ ?_
              · exact Below.refl _ _
              · exact rfl
              · exact fun _ _ _ => ⟨trivial, trivial⟩
            refine FlowAll.cons ?_ ?_
            · intro xF w10 hR hd K hK
              have dd6 : ((xF 6) = .bool false) := hd 6 (by kernel_rfl)
              clear hd
              simp only [List.take_succ_cons, List.take_zero, fillOf, Act.put, List.setIfInBounds_toArray, List.set_cons_zero, List.set_cons_succ, Nat.reduceAdd, Nat.zero_add] at hK ⊢
              try generalize xF 0 = yy0 at *
              try generalize xF 1 = yy1 at *
              try generalize xF 2 = yy2 at *
              try generalize xF 3 = yy3 at *
              try generalize xF 4 = yy4 at *
              try generalize xF 5 = yy5 at *
              try generalize xF 6 = yy6 at *
              try generalize xF 7 = yy7 at *
              try generalize xF 8 = yy8 at *
              try generalize xF 9 = yy9 at *
              try generalize xF 10 = yy10 at *
              clear xF
              obtain rfl := dd6
              obtain hbR := id hR
              obtain ⟨_, z0, z1, _⟩ := id hR
              rw [if_pos (by rfl)]
              go_simp
              refine hK.out _ _ ?_ ?_ ?_
              · exact Below.refl _ _
              · exact rfl
              · exact fun _ _ _ => ⟨trivial, trivial⟩
            refine FlowAll.cons ?_ ?_
            · intro xF w10 hR hd K hK
              have dd6 : ((xF 6) = .bool false) := hd 6 (by kernel_rfl)
              have dd7 : ((xF 7) = .agg #[.slice p11 p12 p13, .slice p14 p15 p16]) := hd 7 (by kernel_rfl)
              have dd8 : ((xF 8) = .agg #[.int .i64 u, .int .i64 v]) := hd 8 (by kernel_rfl)
              clear hd
              simp only [List.take_succ_cons, List.take_zero, fillOf, Act.put, List.setIfInBounds_toArray, List.set_cons_zero, List.set_cons_succ, Nat.reduceAdd, Nat.zero_add] at hK ⊢
              try generalize xF 0 = yy0 at *
              try generalize xF 1 = yy1 at *
              try generalize xF 2 = yy2 at *
              try generalize xF 3 = yy3 at *
              try generalize xF 4 = yy4 at *
              try generalize xF 5 = yy5 at *
              try generalize xF 6 = yy6 at *
              try generalize xF 7 = yy7 at *
              try generalize xF 8 = yy8 at *
              try generalize xF 9 = yy9 at *
              try generalize xF 10 = yy10 at *
              clear xF
              obtain rfl := dd6
              obtain rfl := dd7
              obtain rfl := dd8
              obtain hbR := id hR
              rw [if_pos (by rfl)]
              go_simp
              (go_at_call 16; (with_reducible refine (HB3.out _ hR.1).mono ?_); rintro e wK ⟨rfl, hbK⟩)
              try go_wp2_with fail
              refine hK.out _ _ ?_ ?_ ?_
              · exact hbK
              · exact rfl
              · exact fun _ _ _ => ⟨trivial, trivial⟩
            refine FlowAll.cons ?_ ?_
            · intro xF w10 hR hd K hK
              have dd6 : ((xF 6) = .bool false) := hd 6 (by kernel_rfl)
              have dd9 : ((xF 9) = .bool false) := hd 9 (by kernel_rfl)
              clear hd
              simp only [List.take_succ_cons, List.take_zero, fillOf, Act.put, List.setIfInBounds_toArray, List.set_cons_zero, List.set_cons_succ, Nat.reduceAdd, Nat.zero_add] at hK ⊢
              try generalize xF 0 = yy0 at *
              try generalize xF 1 = yy1 at *
              try generalize xF 2 = yy2 at *
              try generalize xF 3 = yy3 at *
              try generalize xF 4 = yy4 at *
              try generalize xF 5 = yy5 at *
              try generalize xF 6 = yy6 at *
              try generalize xF 7 = yy7 at *
              try generalize xF 8 = yy8 at *
              try generalize xF 9 = yy9 at *
              try generalize xF 10 = yy10 at *
              clear xF
              obtain rfl := dd6
              obtain rfl := dd9
              obtain hbR := id hR
              rw [if_pos (by rfl)]
              go_simp
              refine hK.out _ _ ?_ ?_ ?_
              · exact Below.refl _ _
              · exact rfl
              · exact fun _ _ _ => ⟨trivial, trivial⟩
            exact FlowAll.nil
          intro xF w10 hR hF hP
          clear hP
          have dd0 : ((xF 0) = .agg #[.slice p31 p32 p33, .slice p34 p35 p36]) := hF 0 (by omega) (by decide)
          have dd1 : ((xF 1) = .agg #[.int .i64 u, .int .i64 v]) := hF 1 (by omega) (by decide)
          have dd2 : ((xF 2) = .bool false) := hF 2 (by omega) (by decide)
          have dd3 : ((xF 3) = .agg #[.slice p01 p02 p03, .slice p04 p05 p06]) := hF 3 (by omega) (by decide)
          have dd4 : ((xF 4) = .agg #[.int .i64 u, .int .i64 v]) := hF 4 (by omega) (by decide)
          have dd5 : ((xF 5) = .bool false) := hF 5 (by omega) (by decide)
          have dd6 : ((xF 6) = .bool false) := hF 6 (by omega) (by decide)
          have dd7 : ((xF 7) = .agg #[.slice p11 p12 p13, .slice p14 p15 p16]) := hF 7 (by omega) (by decide)
          have dd8 : ((xF 8) = .agg #[.int .i64 u, .int .i64 v]) := hF 8 (by omega) (by decide)
          have dd9 : ((xF 9) = .bool false) := hF 9 (by omega) (by decide)
          have dd10 : ((xF 10) = .bool false) := hF 10 (by omega) (by decide)
          clear hF
          simp only [List.take_succ_cons, List.take_zero, List.drop_succ_cons, List.drop_zero, fillOf, Act.put, List.setIfInBounds_toArray, List.set_cons_zero, List.set_cons_succ, Nat.reduceAdd, Nat.zero_add]
          try generalize xF 0 = yy0 at *
          try generalize xF 1 = yy1 at *
          try generalize xF 2 = yy2 at *
          try generalize xF 3 = yy3 at *
          try generalize xF 4 = yy4 at *
          try generalize xF 5 = yy5 at *
          try generalize xF 6 = yy6 at *
          try generalize xF 7 = yy7 at *
          try generalize xF 8 = yy8 at *
          try generalize xF 9 = yy9 at *
          try generalize xF 10 = yy10 at *
          clear xF
          obtain rfl := dd0
          obtain rfl := dd1
          obtain rfl := dd2
          obtain rfl := dd3
          obtain rfl := dd4
          obtain rfl := dd5
          obtain rfl := dd6
          obtain rfl := dd7
          obtain rfl := dd8
          obtain rfl := dd9
          obtain rfl := dd10
          have hRE := Lib.hid hR
          clear hR
          have D9 := hRE.out.1
          clear hRE
          go_wp2
          go_roundw
          case rel => exact ⟨k + 1, by go_num, by omega, D9⟩
          case measure => simp [intOf]; omega
    · obtain rfl : k = N := by omega
      have HLd : Hid (∀ W, Below W1.heap.size W1 W → Dots W W.heap.size (.slice aol nl cpl) l) := fun W hW => HDl.out W (EW.out.trans (hW.mono EW.out.size))
      have HMd : Hid (∀ W, Below W1.heap.size W1 W → Dots W W.heap.size (.slice aom nm cpm) m) := fun W hW => HDm.out W (EW.out.trans (hW.mono EW.out.size))
      have UA : Hid (∀ W, Below W1.heap.size W1 W → Calls Try.prog 26 #[.agg #[.slice p01 p02 p03, .slice p04 p05 p06], .agg #[.slice p31 p32 p33, .slice p34 p35 p36]] W (Said true W)) := fun W hW => by
        have := under_says X0.out X3.out HI0.out HIab.out (by omega) (by omega) W hW
        rwa [(underB_is HI0.out HIab2.out).2 (fun d h => Or.inl h)] at this
      have UB : Hid (∀ W, Below W1.heap.size W1 W → Calls Try.prog 26 #[.agg #[.slice p11 p12 p13, .slice p14 p15 p16], .agg #[.slice p31 p32 p33, .slice p34 p35 p36]] W (Said true W)) := fun W hW => by
        have := under_says X1.out X3.out HI1.out HIab.out (by omega) (by omega) W hW
        rwa [(underB_is HI1.out HIab2.out).2 (fun d h => Or.inr h)] at this
      have FR : Hid (∀ (ao : Option Addr) (cp : Nat) (W : World), W.ownsRow W2.heap.size 26 2 (.slice ao (nl + nm) cp) (nl + nm) (dcells l ++ dcells m) → Below W2.heap.size W2 W → Calls Try.prog 28 #[.slice ao (nl + nm) cp] W (CtxP (fun d => valid d = true ∧ d ∈ l ++ m) 1000 W)) := fun ao cp W ho _ => by
        have hlen : (l ++ m).length = nl + nm := by rw [List.length_append, HNl.out, HNm.out]
        refine (from_any (l ++ m) (.slice ao (nl + nm) cp) W (by show Cells _ _ _ (l ++ m).length 2 (dcells (l ++ m)); rw [hlen, dcells_app]; exact Cells.own ho) (by omega)).mono ?_
        rintro e w' ⟨v, cc, rfl, h1, h2, h3⟩
        exact ⟨v, cc, rfl, h1, h2.le (by omega), h3⟩
      clear HDW HAB3 HA3 HB3 HOR
      go_wp2_with fail
      refine wp_flow 21 (fun kF => match kF with | 10 => 12 | 12 => 14 | _ => 1000) (fun ww => RowKit.Below W2.heap.size W2 ww) (fun i w w' => if i = 14 then (fun (w w' : World) => RowKit.Below W2.heap.size w w') w w' else if i = 12 then (fun (w w' : World) => RowKit.Below W2.heap.size w w') w w' else (fun (w w' : World) => RowKit.Below w.heap.size w w') w w') (fun kF vF wF => match kF with | 0 => (vF = .agg #[.slice p01 p02 p03, .slice p04 p05 p06]) | 1 => (vF = .agg #[.slice p31 p32 p33, .slice p34 p35 p36]) | 2 => (vF = .bool true) | 3 => (vF = .bool true) | 4 => (vF = .agg #[.slice p11 p12 p13, .slice p14 p15 p16]) | 5 => (vF = .agg #[.slice p31 p32 p33, .slice p34 p35 p36]) | 6 => (vF = .bool true) | 7 => (vF = .bool true) | 8 => (vF = .bool true) | 9 => (vF = .agg #[.slice p31 p32 p33, .slice p34 p35 p36]) | 10 => (∃ g, vF = .slice (some ⟨g, 0, none⟩) 0 0 ∧ wF.ownsRow W2.heap.size 26 2 (.slice (some ⟨g, 0, none⟩) 0 0) 0 []) | 11 => (vF = .slice aol nl cpl) | 12 => (∃ ao cp, vF = .slice ao nl cp ∧ wF.ownsRow W2.heap.size 26 2 (.slice ao nl cp) nl (dcells l)) | 13 => (vF = .slice aom nm cpm) | 14 => (∃ ao cp, vF = .slice ao (nl + nm) cp ∧ wF.ownsRow W2.heap.size 26 2 (.slice ao (nl + nm) cp) (nl + nm) (dcells l ++ dcells m)) | 15 => (∃ cc, CtxAt wF wF.heap.size vF cc ∧ dm.Is cc (fun d => valid d = true ∧ d ∈ l ++ m) 1000) | 16 => (vF = .bool true) | 17 => (vF = .bool true) | 18 => (vF = .bool true) | 19 => (vF = .bool true) | 20 => (vF = .bool true) | _ => True) (fun _ _ _ _ => True) (by kernel_rfl) (by kernel_rfl) ?_ ?_ ?_ ?_ ?_
      · exact D.drew
      · intro iF wF1 wF2 hR hT
        have hT : (fun i w w' => if i = 14 then (fun (w w' : World) => RowKit.Below W2.heap.size w w') w w' else if i = 12 then (fun (w w' : World) => RowKit.Below W2.heap.size w w') w w' else (fun (w w' : World) => RowKit.Below w.heap.size w w') w w') iF wF1 wF2 := hT
        simp only at hT
        by_cases hi14 : iF = 14
        · rw [if_pos hi14] at hT; exact hR.trans hT
        rw [if_neg hi14] at hT
        by_cases hi12 : iF = 12
        · rw [if_pos hi12] at hT; exact hR.trans hT
        rw [if_neg hi12] at hT
        exact hR.trans (hT.mono hR.size)
      · intro kF hkF iF hiF hne hdd hanc hdan vF wF1 wF2 h hT
        rcases (by omega : kF = 0 ∨ kF = 1 ∨ kF = 2 ∨ kF = 3 ∨ kF = 4 ∨ kF = 5 ∨ kF = 6 ∨ kF = 7 ∨ kF = 8 ∨ kF = 9 ∨ kF = 10 ∨ kF = 11 ∨ kF = 12 ∨ kF = 13 ∨ kF = 14 ∨ kF = 15 ∨ kF = 16 ∨ kF = 17 ∨ kF = 18 ∨ kF = 19 ∨ kF = 20) with rfl | rfl | rfl | rfl | rfl | rfl | rfl | rfl | rfl | rfl | rfl | rfl | rfl | rfl | rfl | rfl | rfl | rfl | rfl | rfl | rfl
        · have h : (vF = .agg #[.slice p01 p02 p03, .slice p04 p05 p06]) := h
          show (vF = .agg #[.slice p01 p02 p03, .slice p04 p05 p06])
          exact h
        · have h : (vF = .agg #[.slice p31 p32 p33, .slice p34 p35 p36]) := h
          show (vF = .agg #[.slice p31 p32 p33, .slice p34 p35 p36])
          exact h
        · have h : (vF = .bool true) := h
          show (vF = .bool true)
          exact h
        · have h : (vF = .bool true) := h
          show (vF = .bool true)
          exact h
        · have h : (vF = .agg #[.slice p11 p12 p13, .slice p14 p15 p16]) := h
          show (vF = .agg #[.slice p11 p12 p13, .slice p14 p15 p16])
          exact h
        · have h : (vF = .agg #[.slice p31 p32 p33, .slice p34 p35 p36]) := h
          show (vF = .agg #[.slice p31 p32 p33, .slice p34 p35 p36])
          exact h
        · have h : (vF = .bool true) := h
          show (vF = .bool true)
          exact h
        · have h : (vF = .bool true) := h
          show (vF = .bool true)
          exact h
        · have h : (vF = .bool true) := h
          show (vF = .bool true)
          exact h
        · have h : (vF = .agg #[.slice p31 p32 p33, .slice p34 p35 p36]) := h
          show (vF = .agg #[.slice p31 p32 p33, .slice p34 p35 p36])
          exact h
        · have h : (∃ g, vF = .slice (some ⟨g, 0, none⟩) 0 0 ∧ wF1.ownsRow W2.heap.size 26 2 (.slice (some ⟨g, 0, none⟩) 0 0) 0 []) := h
          show (∃ g, vF = .slice (some ⟨g, 0, none⟩) 0 0 ∧ wF2.ownsRow W2.heap.size 26 2 (.slice (some ⟨g, 0, none⟩) 0 0) 0 [])
          have hT : (fun i w w' => if i = 14 then (fun (w w' : World) => RowKit.Below W2.heap.size w w') w w' else if i = 12 then (fun (w w' : World) => RowKit.Below W2.heap.size w w') w w' else (fun (w w' : World) => RowKit.Below w.heap.size w w') w w') iF wF1 wF2 := hT
          simp only at hT
          by_cases hi14 : iF = 14
          · subst hi14; exact (anc_no hdan (by kernel_rfl)).elim
          rw [if_neg hi14] at hT
          by_cases hi12 : iF = 12
          · exact absurd hi12.symm hdd
          rw [if_neg hi12] at hT
          obtain ⟨g, e, ho⟩ := h
          exact ⟨g, e, own_stay ho hT⟩
        · have h : (vF = .slice aol nl cpl) := h
          show (vF = .slice aol nl cpl)
          exact h
        · have h : (∃ ao cp, vF = .slice ao nl cp ∧ wF1.ownsRow W2.heap.size 26 2 (.slice ao nl cp) nl (dcells l)) := h
          show (∃ ao cp, vF = .slice ao nl cp ∧ wF2.ownsRow W2.heap.size 26 2 (.slice ao nl cp) nl (dcells l))
          have hT : (fun i w w' => if i = 14 then (fun (w w' : World) => RowKit.Below W2.heap.size w w') w w' else if i = 12 then (fun (w w' : World) => RowKit.Below W2.heap.size w w') w w' else (fun (w w' : World) => RowKit.Below w.heap.size w w') w w') iF wF1 wF2 := hT
          simp only at hT
          by_cases hi14 : iF = 14
          · exact absurd hi14.symm hdd
          rw [if_neg hi14] at hT
          by_cases hi12 : iF = 12
          · exact absurd hi12.symm hne
          rw [if_neg hi12] at hT
          obtain ⟨ao, cp, e, ho⟩ := h
          exact ⟨ao, cp, e, own_stay ho hT⟩
        · have h : (vF = .slice aom nm cpm) := h
          show (vF = .slice aom nm cpm)
          exact h
        · have h : (∃ ao cp, vF = .slice ao (nl + nm) cp ∧ wF1.ownsRow W2.heap.size 26 2 (.slice ao (nl + nm) cp) (nl + nm) (dcells l ++ dcells m)) := h
          show (∃ ao cp, vF = .slice ao (nl + nm) cp ∧ wF2.ownsRow W2.heap.size 26 2 (.slice ao (nl + nm) cp) (nl + nm) (dcells l ++ dcells m))
          have hT : (fun i w w' => if i = 14 then (fun (w w' : World) => RowKit.Below W2.heap.size w w') w w' else if i = 12 then (fun (w w' : World) => RowKit.Below W2.heap.size w w') w w' else (fun (w w' : World) => RowKit.Below w.heap.size w w') w w') iF wF1 wF2 := hT
          simp only at hT
          by_cases hi14 : iF = 14
          · exact absurd hi14.symm hne
          rw [if_neg hi14] at hT
          by_cases hi12 : iF = 12
          · subst hi12; exact (anc_no hanc (by kernel_rfl)).elim
          rw [if_neg hi12] at hT
          obtain ⟨ao, cp, e, ho⟩ := h
          exact ⟨ao, cp, e, own_stay ho hT⟩
        · have h : (∃ cc, CtxAt wF1 wF1.heap.size vF cc ∧ dm.Is cc (fun d => valid d = true ∧ d ∈ l ++ m) 1000) := h
          show (∃ cc, CtxAt wF2 wF2.heap.size vF cc ∧ dm.Is cc (fun d => valid d = true ∧ d ∈ l ++ m) 1000)
          have hT : (fun i w w' => if i = 14 then (fun (w w' : World) => RowKit.Below W2.heap.size w w') w w' else if i = 12 then (fun (w w' : World) => RowKit.Below W2.heap.size w w') w w' else (fun (w w' : World) => RowKit.Below w.heap.size w w') w w') iF wF1 wF2 := hT
          simp only at hT
          by_cases hi14 : iF = 14
          · subst hi14; exact (anc_no hanc (by kernel_rfl)).elim
          rw [if_neg hi14] at hT
          by_cases hi12 : iF = 12
          · subst hi12; exact (anc_no hanc (by kernel_rfl)).elim
          rw [if_neg hi12] at hT
          obtain ⟨cc, h1, h2⟩ := h
          exact ⟨cc, h1.next hT, h2⟩
        · have h : (vF = .bool true) := h
          show (vF = .bool true)
          exact h
        · have h : (vF = .bool true) := h
          show (vF = .bool true)
          exact h
        · have h : (vF = .bool true) := h
          show (vF = .bool true)
          exact h
        · have h : (vF = .bool true) := h
          show (vF = .bool true)
          exact h
        · have h : (vF = .bool true) := h
          show (vF = .bool true)
          exact h
      · refine FlowAll.cons ?_ ?_
        · intro xF w13 hR hd K hK
          clear hd
          simp only [List.take_succ_cons, List.take_zero, fillOf, Act.put, List.setIfInBounds_toArray, List.set_cons_zero, List.set_cons_succ, Nat.reduceAdd, Nat.zero_add] at hK ⊢
          try generalize xF 0 = yy0 at *
          try generalize xF 1 = yy1 at *
          try generalize xF 2 = yy2 at *
          try generalize xF 3 = yy3 at *
          try generalize xF 4 = yy4 at *
          try generalize xF 5 = yy5 at *
          try generalize xF 6 = yy6 at *
          try generalize xF 7 = yy7 at *
          try generalize xF 8 = yy8 at *
          try generalize xF 9 = yy9 at *
          try generalize xF 10 = yy10 at *
          try generalize xF 11 = yy11 at *
          try generalize xF 12 = yy12 at *
          try generalize xF 13 = yy13 at *
          try generalize xF 14 = yy14 at *
          try generalize xF 15 = yy15 at *
          try generalize xF 16 = yy16 at *
          try generalize xF 17 = yy17 at *
          try generalize xF 18 = yy18 at *
          try generalize xF 19 = yy19 at *
          try generalize xF 20 = yy20 at *
          clear xF
          obtain hbR := id hR
          obtain ⟨x0, y0, _, _⟩ := X0.out _ (E2.trans (hR.mono E2.size))
          rw [if_pos (by rfl)]
          go_simp
          refine hK.out _ _ ?_ ?_ ?_
          · exact Below.refl _ _
          · exact rfl
          · exact fun _ _ _ => ⟨trivial, trivial⟩
        refine FlowAll.cons ?_ ?_
        · intro xF w13 hR hd K hK
          clear hd
          simp only [List.take_succ_cons, List.take_zero, fillOf, Act.put, List.setIfInBounds_toArray, List.set_cons_zero, List.set_cons_succ, Nat.reduceAdd, Nat.zero_add] at hK ⊢
          try generalize xF 0 = yy0 at *
          try generalize xF 1 = yy1 at *
          try generalize xF 2 = yy2 at *
          try generalize xF 3 = yy3 at *
          try generalize xF 4 = yy4 at *
          try generalize xF 5 = yy5 at *
          try generalize xF 6 = yy6 at *
          try generalize xF 7 = yy7 at *
          try generalize xF 8 = yy8 at *
          try generalize xF 9 = yy9 at *
          try generalize xF 10 = yy10 at *
          try generalize xF 11 = yy11 at *
          try generalize xF 12 = yy12 at *
          try generalize xF 13 = yy13 at *
          try generalize xF 14 = yy14 at *
          try generalize xF 15 = yy15 at *
          try generalize xF 16 = yy16 at *
          try generalize xF 17 = yy17 at *
          try generalize xF 18 = yy18 at *
          try generalize xF 19 = yy19 at *
          try generalize xF 20 = yy20 at *
          clear xF
          obtain hbR := id hR
          obtain ⟨x3, y3, _, _⟩ := X3.out _ (E2.trans (hR.mono E2.size))
          rw [if_pos (by rfl)]
          go_simp
          refine hK.out _ _ ?_ ?_ ?_
          · exact Below.refl _ _
          · exact rfl
          · exact fun _ _ _ => ⟨trivial, trivial⟩
        refine FlowAll.cons ?_ ?_
        · intro xF w13 hR hd K hK
          have dd0 : ((xF 0) = .agg #[.slice p01 p02 p03, .slice p04 p05 p06]) := hd 0 (by kernel_rfl)
          have dd1 : ((xF 1) = .agg #[.slice p31 p32 p33, .slice p34 p35 p36]) := hd 1 (by kernel_rfl)
          clear hd
          simp only [List.take_succ_cons, List.take_zero, fillOf, Act.put, List.setIfInBounds_toArray, List.set_cons_zero, List.set_cons_succ, Nat.reduceAdd, Nat.zero_add] at hK ⊢
          try generalize xF 0 = yy0 at *
          try generalize xF 1 = yy1 at *
          try generalize xF 2 = yy2 at *
          try generalize xF 3 = yy3 at *
          try generalize xF 4 = yy4 at *
          try generalize xF 5 = yy5 at *
          try generalize xF 6 = yy6 at *
          try generalize xF 7 = yy7 at *
          try generalize xF 8 = yy8 at *
          try generalize xF 9 = yy9 at *
          try generalize xF 10 = yy10 at *
          try generalize xF 11 = yy11 at *
          try generalize xF 12 = yy12 at *
          try generalize xF 13 = yy13 at *
          try generalize xF 14 = yy14 at *
          try generalize xF 15 = yy15 at *
          try generalize xF 16 = yy16 at *
          try generalize xF 17 = yy17 at *
          try generalize xF 18 = yy18 at *
          try generalize xF 19 = yy19 at *
          try generalize xF 20 = yy20 at *
          clear xF
          obtain rfl := dd0
          obtain rfl := dd1
          obtain hbR := id hR
          rw [if_pos (by rfl)]
          go_simp
          (go_at_call 26; (with_reducible refine (UA.out _ (E2.trans (hR.mono E2.size))).mono ?_); rintro e wK ⟨rfl, hbK⟩)
          try go_wp2_with fail
          refine hK.out _ _ ?_ ?_ ?_
          · exact hbK
          · exact rfl
          · exact fun _ _ _ => ⟨trivial, trivial⟩
        refine FlowAll.cons ?_ ?_
        · intro xF w13 hR hd K hK
          have dd2 : ((xF 2) = .bool true) := hd 2 (by kernel_rfl)
          clear hd
          simp only [List.take_succ_cons, List.take_zero, fillOf, Act.put, List.setIfInBounds_toArray, List.set_cons_zero, List.set_cons_succ, Nat.reduceAdd, Nat.zero_add] at hK ⊢
          try generalize xF 0 = yy0 at *
          try generalize xF 1 = yy1 at *
          try generalize xF 2 = yy2 at *
          try generalize xF 3 = yy3 at *
          try generalize xF 4 = yy4 at *
          try generalize xF 5 = yy5 at *
          try generalize xF 6 = yy6 at *
          try generalize xF 7 = yy7 at *
          try generalize xF 8 = yy8 at *
          try generalize xF 9 = yy9 at *
          try generalize xF 10 = yy10 at *
          try generalize xF 11 = yy11 at *
          try generalize xF 12 = yy12 at *
          try generalize xF 13 = yy13 at *
          try generalize xF 14 = yy14 at *
          try generalize xF 15 = yy15 at *
          try generalize xF 16 = yy16 at *
          try generalize xF 17 = yy17 at *
          try generalize xF 18 = yy18 at *
          try generalize xF 19 = yy19 at *
          try generalize xF 20 = yy20 at *
          clear xF
          obtain rfl := dd2
          obtain hbR := id hR
          rw [if_pos (by rfl)]
          go_simp
          refine hK.out _ _ ?_ ?_ ?_
          · exact Below.refl _ _
          · exact rfl
          · exact fun _ _ _ => ⟨trivial, trivial⟩
        refine FlowAll.cons ?_ ?_
        · intro xF w13 hR hd K hK
          have dd3 : ((xF 3) = .bool true) := hd 3 (by kernel_rfl)
          clear hd
          simp only [List.take_succ_cons, List.take_zero, fillOf, Act.put, List.setIfInBounds_toArray, List.set_cons_zero, List.set_cons_succ, Nat.reduceAdd, Nat.zero_add] at hK ⊢
          try generalize xF 0 = yy0 at *
          try generalize xF 1 = yy1 at *
          try generalize xF 2 = yy2 at *
          try generalize xF 3 = yy3 at *
          try generalize xF 4 = yy4 at *
          try generalize xF 5 = yy5 at *
          try generalize xF 6 = yy6 at *
          try generalize xF 7 = yy7 at *
          try generalize xF 8 = yy8 at *
          try generalize xF 9 = yy9 at *
          try generalize xF 10 = yy10 at *
          try generalize xF 11 = yy11 at *
          try generalize xF 12 = yy12 at *
          try generalize xF 13 = yy13 at *
          try generalize xF 14 = yy14 at *
          try generalize xF 15 = yy15 at *
          try generalize xF 16 = yy16 at *
          try generalize xF 17 = yy17 at *
          try generalize xF 18 = yy18 at *
          try generalize xF 19 = yy19 at *
          try generalize xF 20 = yy20 at *
          clear xF
          obtain rfl := dd3
          obtain hbR := id hR
          obtain ⟨x1, y1, _, _⟩ := X1.out _ (E2.trans (hR.mono E2.size))
          rw [if_pos (by rfl)]
          go_simp
          refine hK.out _ _ ?_ ?_ ?_
          · exact Below.refl _ _
          · exact rfl
          · exact fun _ _ _ => ⟨trivial, trivial⟩
        refine FlowAll.cons ?_ ?_
        · intro xF w13 hR hd K hK
          have dd3 : ((xF 3) = .bool true) := hd 3 (by kernel_rfl)
          clear hd
          simp only [List.take_succ_cons, List.take_zero, fillOf, Act.put, List.setIfInBounds_toArray, List.set_cons_zero, List.set_cons_succ, Nat.reduceAdd, Nat.zero_add] at hK ⊢
          try generalize xF 0 = yy0 at *
          try generalize xF 1 = yy1 at *
          try generalize xF 2 = yy2 at *
          try generalize xF 3 = yy3 at *
          try generalize xF 4 = yy4 at *
          try generalize xF 5 = yy5 at *
          try generalize xF 6 = yy6 at *
          try generalize xF 7 = yy7 at *
          try generalize xF 8 = yy8 at *
          try generalize xF 9 = yy9 at *
          try generalize xF 10 = yy10 at *
          try generalize xF 11 = yy11 at *
          try generalize xF 12 = yy12 at *
          try generalize xF 13 = yy13 at *
          try generalize xF 14 = yy14 at *
          try generalize xF 15 = yy15 at *
          try generalize xF 16 = yy16 at *
          try generalize xF 17 = yy17 at *
          try generalize xF 18 = yy18 at *
          try generalize xF 19 = yy19 at *
          try generalize xF 20 = yy20 at *
          clear xF
          obtain rfl := dd3
          obtain hbR := id hR
          obtain ⟨x3, y3, _, _⟩ := X3.out _ (E2.trans (hR.mono E2.size))
          rw [if_pos (by rfl)]
          go_simp
          refine hK.out _ _ ?_ ?_ ?_
          · exact Below.refl _ _
          · exact rfl
          · exact fun _ _ _ => ⟨trivial, trivial⟩
        refine FlowAll.cons ?_ ?_
        · intro xF w13 hR hd K hK
          have dd3 : ((xF 3) = .bool true) := hd 3 (by kernel_rfl)
          have dd4 : ((xF 4) = .agg #[.slice p11 p12 p13, .slice p14 p15 p16]) := hd 4 (by kernel_rfl)
          have dd5 : ((xF 5) = .agg #[.slice p31 p32 p33, .slice p34 p35 p36]) := hd 5 (by kernel_rfl)
          clear hd
          simp only [List.take_succ_cons, List.take_zero, fillOf, Act.put, List.setIfInBounds_toArray, List.set_cons_zero, List.set_cons_succ, Nat.reduceAdd, Nat.zero_add] at hK ⊢
          try generalize xF 0 = yy0 at *
          try generalize xF 1 = yy1 at *
          try generalize xF 2 = yy2 at *
          try generalize xF 3 = yy3 at *
          try generalize xF 4 = yy4 at *
          try generalize xF 5 = yy5 at *
          try generalize xF 6 = yy6 at *
          try generalize xF 7 = yy7 at *
          try generalize xF 8 = yy8 at *
          try generalize xF 9 = yy9 at *
          try generalize xF 10 = yy10 at *
          try generalize xF 11 = yy11 at *
          try generalize xF 12 = yy12 at *
          try generalize xF 13 = yy13 at *
          try generalize xF 14 = yy14 at *
          try generalize xF 15 = yy15 at *
          try generalize xF 16 = yy16 at *
          try generalize xF 17 = yy17 at *
          try generalize xF 18 = yy18 at *
          try generalize xF 19 = yy19 at *
          try generalize xF 20 = yy20 at *
          clear xF
          obtain rfl := dd3
          obtain rfl := dd4
          obtain rfl := dd5
          obtain hbR := id hR
          rw [if_pos (by rfl)]
          go_simp
          (go_at_call 26; (with_reducible refine (UB.out _ (E2.trans (hR.mono E2.size))).mono ?_); rintro e wK ⟨rfl, hbK⟩)
          try go_wp2_with fail
          refine hK.out _ _ ?_ ?_ ?_
          · exact hbK
          · exact rfl
          · exact fun _ _ _ => ⟨trivial, trivial⟩
        refine FlowAll.cons ?_ ?_
        · intro xF w13 hR hd K hK
          have dd3 : ((xF 3) = .bool true) := hd 3 (by kernel_rfl)
          have dd6 : ((xF 6) = .bool true) := hd 6 (by kernel_rfl)
          clear hd
          simp only [List.take_succ_cons, List.take_zero, fillOf, Act.put, List.setIfInBounds_toArray, List.set_cons_zero, List.set_cons_succ, Nat.reduceAdd, Nat.zero_add] at hK ⊢
          try generalize xF 0 = yy0 at *
          try generalize xF 1 = yy1 at *
          try generalize xF 2 = yy2 at *
          try generalize xF 3 = yy3 at *
          try generalize xF 4 = yy4 at *
          try generalize xF 5 = yy5 at *
          try generalize xF 6 = yy6 at *
          try generalize xF 7 = yy7 at *
          try generalize xF 8 = yy8 at *
          try generalize xF 9 = yy9 at *
          try generalize xF 10 = yy10 at *
          try generalize xF 11 = yy11 at *
          try generalize xF 12 = yy12 at *
          try generalize xF 13 = yy13 at *
          try generalize xF 14 = yy14 at *
          try generalize xF 15 = yy15 at *
          try generalize xF 16 = yy16 at *
          try generalize xF 17 = yy17 at *
          try generalize xF 18 = yy18 at *
          try generalize xF 19 = yy19 at *
          try generalize xF 20 = yy20 at *
          clear xF
          obtain rfl := dd3
          obtain rfl := dd6
          obtain hbR := id hR
          rw [if_pos (by rfl)]
          go_simp
          refine hK.out _ _ ?_ ?_ ?_
          · exact Below.refl _ _
          · exact rfl
          · exact fun _ _ _ => ⟨trivial, trivial⟩
        refine FlowAll.cons ?_ ?_
        · intro xF w13 hR hd K hK
          have dd7 : ((xF 7) = .bool true) := hd 7 (by kernel_rfl)
          clear hd
          simp only [List.take_succ_cons, List.take_zero, fillOf, Act.put, List.setIfInBounds_toArray, List.set_cons_zero, List.set_cons_succ, Nat.reduceAdd, Nat.zero_add] at hK ⊢
          try generalize xF 0 = yy0 at *
          try generalize xF 1 = yy1 at *
          try generalize xF 2 = yy2 at *
          try generalize xF 3 = yy3 at *
          try generalize xF 4 = yy4 at *
          try generalize xF 5 = yy5 at *
          try generalize xF 6 = yy6 at *
          try generalize xF 7 = yy7 at *
          try generalize xF 8 = yy8 at *
          try generalize xF 9 = yy9 at *
          try generalize xF 10 = yy10 at *
          try generalize xF 11 = yy11 at *
          try generalize xF 12 = yy12 at *
          try generalize xF 13 = yy13 at *
          try generalize xF 14 = yy14 at *
          try generalize xF 15 = yy15 at *
          try generalize xF 16 = yy16 at *
          try generalize xF 17 = yy17 at *
          try generalize xF 18 = yy18 at *
          try generalize xF 19 = yy19 at *
          try generalize xF 20 = yy20 at *
          clear xF
          obtain rfl := dd7
          obtain hbR := id hR
          rw [if_pos (by rfl)]
          go_simp
          refine hK.out _ _ ?_ ?_ ?_
          · exact Below.refl _ _
          · exact rfl
          · exact fun _ _ _ => ⟨trivial, trivial⟩
        refine FlowAll.cons ?_ ?_
        · intro xF w13 hR hd K hK
          have dd8 : ((xF 8) = .bool true) := hd 8 (by kernel_rfl)
          clear hd
          simp only [List.take_succ_cons, List.take_zero, fillOf, Act.put, List.setIfInBounds_toArray, List.set_cons_zero, List.set_cons_succ, Nat.reduceAdd, Nat.zero_add] at hK ⊢
          try generalize xF 0 = yy0 at *
          try generalize xF 1 = yy1 at *
          try generalize xF 2 = yy2 at *
          try generalize xF 3 = yy3 at *
          try generalize xF 4 = yy4 at *
          try generalize xF 5 = yy5 at *
          try generalize xF 6 = yy6 at *
          try generalize xF 7 = yy7 at *
          try generalize xF 8 = yy8 at *
          try generalize xF 9 = yy9 at *
          try generalize xF 10 = yy10 at *
          try generalize xF 11 = yy11 at *
          try generalize xF 12 = yy12 at *
          try generalize xF 13 = yy13 at *
          try generalize xF 14 = yy14 at *
          try generalize xF 15 = yy15 at *
          try generalize xF 16 = yy16 at *
          try generalize xF 17 = yy17 at *
          try generalize xF 18 = yy18 at *
          try generalize xF 19 = yy19 at *
          try generalize xF 20 = yy20 at *
          clear xF
          obtain rfl := dd8
          obtain hbR := id hR
          obtain ⟨x3, y3, _, _⟩ := X3.out _ (E2.trans (hR.mono E2.size))
          rw [if_pos (by rfl)]
          go_simp
          refine hK.out _ _ ?_ ?_ ?_
          · exact Below.refl _ _
          · exact rfl
          · exact fun _ _ _ => ⟨trivial, trivial⟩
        refine FlowAll.cons ?_ ?_
        · intro xF w13 hR hd K hK
          have dd8 : ((xF 8) = .bool true) := hd 8 (by kernel_rfl)
          clear hd
          simp only [List.take_succ_cons, List.take_zero, fillOf, Act.put, List.setIfInBounds_toArray, List.set_cons_zero, List.set_cons_succ, Nat.reduceAdd, Nat.zero_add] at hK ⊢
          try generalize xF 0 = yy0 at *
          try generalize xF 1 = yy1 at *
          try generalize xF 2 = yy2 at *
          try generalize xF 3 = yy3 at *
          try generalize xF 4 = yy4 at *
          try generalize xF 5 = yy5 at *
          try generalize xF 6 = yy6 at *
          try generalize xF 7 = yy7 at *
          try generalize xF 8 = yy8 at *
          try generalize xF 9 = yy9 at *
          try generalize xF 10 = yy10 at *
          try generalize xF 11 = yy11 at *
          try generalize xF 12 = yy12 at *
          try generalize xF 13 = yy13 at *
          try generalize xF 14 = yy14 at *
          try generalize xF 15 = yy15 at *
          try generalize xF 16 = yy16 at *
          try generalize xF 17 = yy17 at *
          try generalize xF 18 = yy18 at *
          try generalize xF 19 = yy19 at *
          try generalize xF 20 = yy20 at *
          clear xF
          obtain rfl := dd8
          obtain hbR := id hR
          rw [if_pos (by rfl)]
          go_simp
          refine hK.out _ _ ?_ ?_ ?_
          · exact ctx_below
          · exact ⟨_, rfl, own_none _ hR.size 2⟩
          · exact fun _ _ _ => ⟨trivial, trivial⟩
        refine FlowAll.cons ?_ ?_
        · intro xF w13 hR hd K hK
          have dd8 : ((xF 8) = .bool true) := hd 8 (by kernel_rfl)
          clear hd
          simp only [List.take_succ_cons, List.take_zero, fillOf, Act.put, List.setIfInBounds_toArray, List.set_cons_zero, List.set_cons_succ, Nat.reduceAdd, Nat.zero_add] at hK ⊢
          try generalize xF 0 = yy0 at *
          try generalize xF 1 = yy1 at *
          try generalize xF 2 = yy2 at *
          try generalize xF 3 = yy3 at *
          try generalize xF 4 = yy4 at *
          try generalize xF 5 = yy5 at *
          try generalize xF 6 = yy6 at *
          try generalize xF 7 = yy7 at *
          try generalize xF 8 = yy8 at *
          try generalize xF 9 = yy9 at *
          try generalize xF 10 = yy10 at *
          try generalize xF 11 = yy11 at *
          try generalize xF 12 = yy12 at *
          try generalize xF 13 = yy13 at *
          try generalize xF 14 = yy14 at *
          try generalize xF 15 = yy15 at *
          try generalize xF 16 = yy16 at *
          try generalize xF 17 = yy17 at *
          try generalize xF 18 = yy18 at *
          try generalize xF 19 = yy19 at *
          try generalize xF 20 = yy20 at *
          clear xF
          obtain rfl := dd8
          obtain hbR := id hR
          rw [if_pos (by rfl)]
          go_simp
          refine hK.out _ _ ?_ ?_ ?_
          · exact Below.refl _ _
          · exact rfl
          · exact fun _ _ _ => ⟨trivial, trivial⟩
        refine FlowAll.cons ?_ ?_
        · intro xF w13 hR hd K hK
          have dd8 : ((xF 8) = .bool true) := hd 8 (by kernel_rfl)
          have dd10 : (∃ g, (xF 10) = .slice (some ⟨g, 0, none⟩) 0 0 ∧ w13.ownsRow W2.heap.size 26 2 (.slice (some ⟨g, 0, none⟩) 0 0) 0 []) := hd 10 (by kernel_rfl)
          have dd11 : ((xF 11) = .slice aol nl cpl) := hd 11 (by kernel_rfl)
          clear hd
          simp only [List.take_succ_cons, List.take_zero, fillOf, Act.put, List.setIfInBounds_toArray, List.set_cons_zero, List.set_cons_succ, Nat.reduceAdd, Nat.zero_add] at hK ⊢
          try generalize xF 0 = yy0 at *
          try generalize xF 1 = yy1 at *
          try generalize xF 2 = yy2 at *
          try generalize xF 3 = yy3 at *
          try generalize xF 4 = yy4 at *
          try generalize xF 5 = yy5 at *
          try generalize xF 6 = yy6 at *
          try generalize xF 7 = yy7 at *
          try generalize xF 8 = yy8 at *
          try generalize xF 9 = yy9 at *
          try generalize xF 10 = yy10 at *
          try generalize xF 11 = yy11 at *
          try generalize xF 12 = yy12 at *
          try generalize xF 13 = yy13 at *
          try generalize xF 14 = yy14 at *
          try generalize xF 15 = yy15 at *
          try generalize xF 16 = yy16 at *
          try generalize xF 17 = yy17 at *
          try generalize xF 18 = yy18 at *
          try generalize xF 19 = yy19 at *
          try generalize xF 20 = yy20 at *
          clear xF
          obtain rfl := dd8
          obtain ⟨g10, rfl, ho10⟩ := dd10
          obtain rfl := dd11
          obtain hbR := id hR
          rw [if_pos (by rfl)]
          refine kit.wp_of_list (fun Q' hQ' => ?_)
          have hN := Cells.news' (HLd.out _ (E2.trans (hR.mono E2.size)))
          refine kit.appN (.tmp 110) (.tmp 111) 22 rfl rfl W2.heap.size Try.underlying22 infoDot rfl (by decide) (by decide) ho10 rfl (dcells l) rfl HLl.out hN.1 hN.2 dcells_one (by omega) hR.size ?_
          intro vN wN hownN hbN
          refine hQ' _ _ ?_
          obtain ⟨aoN, cpN, rfl⟩ := own_form hownN
          simp only [Act.put, List.setIfInBounds_toArray, List.set_cons_zero, List.set_cons_succ]
          refine hK.out _ _ ?_ ?_ ?_
          · exact hbN
          · exact ⟨aoN, cpN, by simp, by simpa using hownN⟩
          · exact fun _ _ _ => ⟨trivial, trivial⟩
        refine FlowAll.cons ?_ ?_
        · intro xF w13 hR hd K hK
          have dd8 : ((xF 8) = .bool true) := hd 8 (by kernel_rfl)
          clear hd
          simp only [List.take_succ_cons, List.take_zero, fillOf, Act.put, List.setIfInBounds_toArray, List.set_cons_zero, List.set_cons_succ, Nat.reduceAdd, Nat.zero_add] at hK ⊢
          try generalize xF 0 = yy0 at *
          try generalize xF 1 = yy1 at *
          try generalize xF 2 = yy2 at *
          try generalize xF 3 = yy3 at *
          try generalize xF 4 = yy4 at *
          try generalize xF 5 = yy5 at *
          try generalize xF 6 = yy6 at *
          try generalize xF 7 = yy7 at *
          try generalize xF 8 = yy8 at *
          try generalize xF 9 = yy9 at *
          try generalize xF 10 = yy10 at *
          try generalize xF 11 = yy11 at *
          try generalize xF 12 = yy12 at *
          try generalize xF 13 = yy13 at *
          try generalize xF 14 = yy14 at *
          try generalize xF 15 = yy15 at *
          try generalize xF 16 = yy16 at *
          try generalize xF 17 = yy17 at *
          try generalize xF 18 = yy18 at *
          try generalize xF 19 = yy19 at *
          try generalize xF 20 = yy20 at *
          clear xF
          obtain rfl := dd8
          obtain hbR := id hR
          rw [if_pos (by rfl)]
          go_simp
          refine hK.out _ _ ?_ ?_ ?_
          · exact Below.refl _ _
          · exact rfl
          · exact fun _ _ _ => ⟨trivial, trivial⟩
        refine FlowAll.cons ?_ ?_
        · intro xF w13 hR hd K hK
          have dd8 : ((xF 8) = .bool true) := hd 8 (by kernel_rfl)
          have dd12 : (∃ ao cp, (xF 12) = .slice ao nl cp ∧ w13.ownsRow W2.heap.size 26 2 (.slice ao nl cp) nl (dcells l)) := hd 12 (by kernel_rfl)
          have dd13 : ((xF 13) = .slice aom nm cpm) := hd 13 (by kernel_rfl)
          clear hd
          simp only [List.take_succ_cons, List.take_zero, fillOf, Act.put, List.setIfInBounds_toArray, List.set_cons_zero, List.set_cons_succ, Nat.reduceAdd, Nat.zero_add] at hK ⊢
          try generalize xF 0 = yy0 at *
          try generalize xF 1 = yy1 at *
          try generalize xF 2 = yy2 at *
          try generalize xF 3 = yy3 at *
          try generalize xF 4 = yy4 at *
          try generalize xF 5 = yy5 at *
          try generalize xF 6 = yy6 at *
          try generalize xF 7 = yy7 at *
          try generalize xF 8 = yy8 at *
          try generalize xF 9 = yy9 at *
          try generalize xF 10 = yy10 at *
          try generalize xF 11 = yy11 at *
          try generalize xF 12 = yy12 at *
          try generalize xF 13 = yy13 at *
          try generalize xF 14 = yy14 at *
          try generalize xF 15 = yy15 at *
          try generalize xF 16 = yy16 at *
          try generalize xF 17 = yy17 at *
          try generalize xF 18 = yy18 at *
          try generalize xF 19 = yy19 at *
          try generalize xF 20 = yy20 at *
          clear xF
          obtain rfl := dd8
          obtain ⟨ao12, cp12, rfl, ho12⟩ := dd12
          obtain rfl := dd13
          obtain hbR := id hR
          rw [if_pos (by rfl)]
          refine kit.wp_of_list (fun Q' hQ' => ?_)
          have hN := Cells.news' (HMd.out _ (E2.trans (hR.mono E2.size)))
          refine kit.appN (.tmp 112) (.tmp 113) 22 rfl rfl W2.heap.size Try.underlying22 infoDot rfl (by decide) (by decide) ho12 rfl (dcells m) rfl HLm.out hN.1 hN.2 dcells_one (by omega) hR.size ?_
          intro vN wN hownN hbN
          refine hQ' _ _ ?_
          obtain ⟨aoN, cpN, rfl⟩ := own_form hownN
          simp only [Act.put, List.setIfInBounds_toArray, List.set_cons_zero, List.set_cons_succ]
          refine hK.out _ _ ?_ ?_ ?_
          · exact hbN
          · exact ⟨aoN, cpN, rfl, by simpa [dcells_app] using hownN⟩
          · exact fun _ _ _ => ⟨trivial, trivial⟩
        refine FlowAll.cons ?_ ?_
        · intro xF w13 hR hd K hK
          have dd8 : ((xF 8) = .bool true) := hd 8 (by kernel_rfl)
          have dd14 : (∃ ao cp, (xF 14) = .slice ao (nl + nm) cp ∧ w13.ownsRow W2.heap.size 26 2 (.slice ao (nl + nm) cp) (nl + nm) (dcells l ++ dcells m)) := hd 14 (by kernel_rfl)
          clear hd
          simp only [List.take_succ_cons, List.take_zero, fillOf, Act.put, List.setIfInBounds_toArray, List.set_cons_zero, List.set_cons_succ, Nat.reduceAdd, Nat.zero_add] at hK ⊢
          try generalize xF 0 = yy0 at *
          try generalize xF 1 = yy1 at *
          try generalize xF 2 = yy2 at *
          try generalize xF 3 = yy3 at *
          try generalize xF 4 = yy4 at *
          try generalize xF 5 = yy5 at *
          try generalize xF 6 = yy6 at *
          try generalize xF 7 = yy7 at *
          try generalize xF 8 = yy8 at *
          try generalize xF 9 = yy9 at *
          try generalize xF 10 = yy10 at *
          try generalize xF 11 = yy11 at *
          try generalize xF 12 = yy12 at *
          try generalize xF 13 = yy13 at *
          try generalize xF 14 = yy14 at *
          try generalize xF 15 = yy15 at *
          try generalize xF 16 = yy16 at *
          try generalize xF 17 = yy17 at *
          try generalize xF 18 = yy18 at *
          try generalize xF 19 = yy19 at *
          try generalize xF 20 = yy20 at *
          clear xF
          obtain rfl := dd8
          obtain ⟨ao14, cp14, rfl, ho14⟩ := dd14
          obtain hbR := id hR
          rw [if_pos (by rfl)]
          go_simp
          (go_at_call 28; (with_reducible refine (FR.out _ _ _ ho14 hR).mono ?_); rintro e wK ⟨vK, ccK, rfl, hcK, hsK, hbK⟩)
          try go_wp2_with fail
          refine hK.out _ _ ?_ ?_ ?_
          · exact hbK
          · exact ⟨ccK, hcK, hsK⟩
          · exact fun _ _ _ => ⟨trivial, trivial⟩
        refine FlowAll.cons ?_ ?_
        · intro xF w13 hR hd K hK
          have dd8 : ((xF 8) = .bool true) := hd 8 (by kernel_rfl)
          have dd9 : ((xF 9) = .agg #[.slice p31 p32 p33, .slice p34 p35 p36]) := hd 9 (by kernel_rfl)
          have dd15 : (∃ cc, CtxAt w13 w13.heap.size (xF 15) cc ∧ dm.Is cc (fun d => valid d = true ∧ d ∈ l ++ m) 1000) := hd 15 (by kernel_rfl)
          clear hd
          simp only [List.take_succ_cons, List.take_zero, fillOf, Act.put, List.setIfInBounds_toArray, List.set_cons_zero, List.set_cons_succ, Nat.reduceAdd, Nat.zero_add] at hK ⊢
          try generalize xF 0 = yy0 at *
          try generalize xF 1 = yy1 at *
          try generalize xF 2 = yy2 at *
          try generalize xF 3 = yy3 at *
          try generalize xF 4 = yy4 at *
          try generalize xF 5 = yy5 at *
          try generalize xF 6 = yy6 at *
          try generalize xF 7 = yy7 at *
          try generalize xF 8 = yy8 at *
          try generalize xF 9 = yy9 at *
          try generalize xF 10 = yy10 at *
          try generalize xF 11 = yy11 at *
          try generalize xF 12 = yy12 at *
          try generalize xF 13 = yy13 at *
          try generalize xF 14 = yy14 at *
          try generalize xF 15 = yy15 at *
          try generalize xF 16 = yy16 at *
          try generalize xF 17 = yy17 at *
          try generalize xF 18 = yy18 at *
          try generalize xF 19 = yy19 at *
          try generalize xF 20 = yy20 at *
          clear xF
          obtain rfl := dd8
          obtain rfl := dd9
          obtain ⟨cc15, hc15, hs15⟩ := dd15
          obtain hbR := id hR
          rw [if_pos (by rfl)]
          go_simp
          (go_at_call 25; (with_reducible refine (SM.out _ _ _ _ _ _ _ (X3.out.get _ (E2.trans (hR.mono E2.size))).ctx hc15 HIab.out hs15 SE5.out).mono ?_); rintro e wK ⟨rfl, hbK⟩)
          try go_wp2_with fail
          refine hK.out _ _ ?_ ?_ ?_
          · exact hbK
          · exact rfl
          · exact fun _ _ _ => ⟨trivial, trivial⟩
        refine FlowAll.cons ?_ ?_
        · intro xF w13 hR hd K hK
          have dd8 : ((xF 8) = .bool true) := hd 8 (by kernel_rfl)
          have dd16 : ((xF 16) = .bool true) := hd 16 (by kernel_rfl)
          clear hd
          simp only [List.take_succ_cons, List.take_zero, fillOf, Act.put, List.setIfInBounds_toArray, List.set_cons_zero, List.set_cons_succ, Nat.reduceAdd, Nat.zero_add] at hK ⊢
          try generalize xF 0 = yy0 at *
          try generalize xF 1 = yy1 at *
          try generalize xF 2 = yy2 at *
          try generalize xF 3 = yy3 at *
          try generalize xF 4 = yy4 at *
          try generalize xF 5 = yy5 at *
          try generalize xF 6 = yy6 at *
          try generalize xF 7 = yy7 at *
          try generalize xF 8 = yy8 at *
          try generalize xF 9 = yy9 at *
          try generalize xF 10 = yy10 at *
          try generalize xF 11 = yy11 at *
          try generalize xF 12 = yy12 at *
          try generalize xF 13 = yy13 at *
          try generalize xF 14 = yy14 at *
          try generalize xF 15 = yy15 at *
          try generalize xF 16 = yy16 at *
          try generalize xF 17 = yy17 at *
          try generalize xF 18 = yy18 at *
          try generalize xF 19 = yy19 at *
          try generalize xF 20 = yy20 at *
          clear xF
          obtain rfl := dd8
          obtain rfl := dd16
          obtain hbR := id hR
          rw [if_pos (by rfl)]
          go_simp
          refine hK.out _ _ ?_ ?_ ?_
          · exact Below.refl _ _
          · exact rfl
          · exact fun _ _ _ => ⟨trivial, trivial⟩
        refine FlowAll.cons ?_ ?_
        · intro xF w13 hR hd K hK
          have dd17 : ((xF 17) = .bool true) := hd 17 (by kernel_rfl)
          clear hd
          simp only [List.take_succ_cons, List.take_zero, fillOf, Act.put, List.setIfInBounds_toArray, List.set_cons_zero, List.set_cons_succ, Nat.reduceAdd, Nat.zero_add] at hK ⊢
          try generalize xF 0 = yy0 at *
          try generalize xF 1 = yy1 at *
          try generalize xF 2 = yy2 at *
          try generalize xF 3 = yy3 at *
          try generalize xF 4 = yy4 at *
          try generalize xF 5 = yy5 at *
          try generalize xF 6 = yy6 at *
          try generalize xF 7 = yy7 at *
          try generalize xF 8 = yy8 at *
          try generalize xF 9 = yy9 at *
          try generalize xF 10 = yy10 at *
          try generalize xF 11 = yy11 at *
          try generalize xF 12 = yy12 at *
          try generalize xF 13 = yy13 at *
          try generalize xF 14 = yy14 at *
          try generalize xF 15 = yy15 at *
          try generalize xF 16 = yy16 at *
          try generalize xF 17 = yy17 at *
          try generalize xF 18 = yy18 at *
          try generalize xF 19 = yy19 at *
          try generalize xF 20 = yy20 at *
          clear xF
          obtain rfl := dd17
          obtain hbR := id hR
          rw [if_pos (by rfl)]
          go_simp
          refine hK.out _ _ ?_ ?_ ?_
          · exact Below.refl _ _
          · exact rfl
          · exact fun _ _ _ => ⟨trivial, trivial⟩
        refine FlowAll.cons ?_ ?_
        · intro xF w13 hR hd K hK
          have dd18 : ((xF 18) = .bool true) := hd 18 (by kernel_rfl)
          clear hd
          simp only [List.take_succ_cons, List.take_zero, fillOf, Act.put, List.setIfInBounds_toArray, List.set_cons_zero, List.set_cons_succ, Nat.reduceAdd, Nat.zero_add] at hK ⊢
          try generalize xF 0 = yy0 at *
          try generalize xF 1 = yy1 at *
          try generalize xF 2 = yy2 at *
          try generalize xF 3 = yy3 at *
          try generalize xF 4 = yy4 at *
          try generalize xF 5 = yy5 at *
          try generalize xF 6 = yy6 at *
          try generalize xF 7 = yy7 at *
          try generalize xF 8 = yy8 at *
          try generalize xF 9 = yy9 at *
          try generalize xF 10 = yy10 at *
          try generalize xF 11 = yy11 at *
          try generalize xF 12 = yy12 at *
          try generalize xF 13 = yy13 at *
          try generalize xF 14 = yy14 at *
          try generalize xF 15 = yy15 at *
          try generalize xF 16 = yy16 at *
          try generalize xF 17 = yy17 at *
          try generalize xF 18 = yy18 at *
          try generalize xF 19 = yy19 at *
          try generalize xF 20 = yy20 at *
          clear xF
          obtain rfl := dd18
          obtain hbR := id hR
          rw [if_pos (by rfl)]
          go_simp
          (go_at_call 11; (with_reducible refine (HAW.out _).mono ?_); rintro e wK ⟨rfl, hbK⟩)
          try go_wp2_with fail
          refine hK.out _ _ ?_ ?_ ?_
          · exact hbK
          · exact rfl
          · exact fun _ _ _ => ⟨trivial, trivial⟩
        refine FlowAll.cons ?_ ?_
        · intro xF w13 hR hd K hK
          have dd18 : ((xF 18) = .bool true) := hd 18 (by kernel_rfl)
          have dd19 : ((xF 19) = .bool true) := hd 19 (by kernel_rfl)
          clear hd
          simp only [List.take_succ_cons, List.take_zero, fillOf, Act.put, List.setIfInBounds_toArray, List.set_cons_zero, List.set_cons_succ, Nat.reduceAdd, Nat.zero_add] at hK ⊢
          try generalize xF 0 = yy0 at *
          try generalize xF 1 = yy1 at *
          try generalize xF 2 = yy2 at *
          try generalize xF 3 = yy3 at *
          try generalize xF 4 = yy4 at *
          try generalize xF 5 = yy5 at *
          try generalize xF 6 = yy6 at *
          try generalize xF 7 = yy7 at *
          try generalize xF 8 = yy8 at *
          try generalize xF 9 = yy9 at *
          try generalize xF 10 = yy10 at *
          try generalize xF 11 = yy11 at *
          try generalize xF 12 = yy12 at *
          try generalize xF 13 = yy13 at *
          try generalize xF 14 = yy14 at *
          try generalize xF 15 = yy15 at *
          try generalize xF 16 = yy16 at *
          try generalize xF 17 = yy17 at *
          try generalize xF 18 = yy18 at *
          try generalize xF 19 = yy19 at *
          try generalize xF 20 = yy20 at *
          clear xF
          obtain rfl := dd18
          obtain rfl := dd19
          obtain hbR := id hR
          rw [if_pos (by rfl)]
          go_simp
          refine hK.out _ _ ?_ ?_ ?_
          · exact Below.refl _ _
          · exact rfl
          · exact fun _ _ _ => ⟨trivial, trivial⟩
        exact FlowAll.nil
      intro xF w13 hR hF hP
      clear hP
      have dd0 : ((xF 0) = .agg #[.slice p01 p02 p03, .slice p04 p05 p06]) := hF 0 (by omega) (by decide)
      have dd1 : ((xF 1) = .agg #[.slice p31 p32 p33, .slice p34 p35 p36]) := hF 1 (by omega) (by decide)
      have dd2 : ((xF 2) = .bool true) := hF 2 (by omega) (by decide)
      have dd3 : ((xF 3) = .bool true) := hF 3 (by omega) (by decide)
      have dd4 : ((xF 4) = .agg #[.slice p11 p12 p13, .slice p14 p15 p16]) := hF 4 (by omega) (by decide)
      have dd5 : ((xF 5) = .agg #[.slice p31 p32 p33, .slice p34 p35 p36]) := hF 5 (by omega) (by decide)
      have dd6 : ((xF 6) = .bool true) := hF 6 (by omega) (by decide)
      have dd7 : ((xF 7) = .bool true) := hF 7 (by omega) (by decide)
      have dd8 : ((xF 8) = .bool true) := hF 8 (by omega) (by decide)
      have dd9 : ((xF 9) = .agg #[.slice p31 p32 p33, .slice p34 p35 p36]) := hF 9 (by omega) (by decide)
      have dd11 : ((xF 11) = .slice aol nl cpl) := hF 11 (by omega) (by decide)
      have dd13 : ((xF 13) = .slice aom nm cpm) := hF 13 (by omega) (by decide)
      have dd14 : (∃ ao cp, (xF 14) = .slice ao (nl + nm) cp ∧ w13.ownsRow W2.heap.size 26 2 (.slice ao (nl + nm) cp) (nl + nm) (dcells l ++ dcells m)) := hF 14 (by omega) (by decide)
      have dd15 : (∃ cc, CtxAt w13 w13.heap.size (xF 15) cc ∧ dm.Is cc (fun d => valid d = true ∧ d ∈ l ++ m) 1000) := hF 15 (by omega) (by decide)
      have dd16 : ((xF 16) = .bool true) := hF 16 (by omega) (by decide)
      have dd17 : ((xF 17) = .bool true) := hF 17 (by omega) (by decide)
      have dd18 : ((xF 18) = .bool true) := hF 18 (by omega) (by decide)
      have dd19 : ((xF 19) = .bool true) := hF 19 (by omega) (by decide)
      have dd20 : ((xF 20) = .bool true) := hF 20 (by omega) (by decide)
      clear hF
      simp only [List.take_succ_cons, List.take_zero, List.drop_succ_cons, List.drop_zero, fillOf, Act.put, List.setIfInBounds_toArray, List.set_cons_zero, List.set_cons_succ, Nat.reduceAdd, Nat.zero_add]
      try generalize xF 0 = yy0 at *
      try generalize xF 1 = yy1 at *
      try generalize xF 2 = yy2 at *
      try generalize xF 3 = yy3 at *
      try generalize xF 4 = yy4 at *
      try generalize xF 5 = yy5 at *
      try generalize xF 6 = yy6 at *
      try generalize xF 7 = yy7 at *
      try generalize xF 8 = yy8 at *
      try generalize xF 9 = yy9 at *
      try generalize xF 10 = yy10 at *
      try generalize xF 11 = yy11 at *
      try generalize xF 12 = yy12 at *
      try generalize xF 13 = yy13 at *
      try generalize xF 14 = yy14 at *
      try generalize xF 15 = yy15 at *
      try generalize xF 16 = yy16 at *
      try generalize xF 17 = yy17 at *
      try generalize xF 18 = yy18 at *
      try generalize xF 19 = yy19 at *
      try generalize xF 20 = yy20 at *
      clear xF
      obtain rfl := dd0
      obtain rfl := dd1
      obtain rfl := dd2
      obtain rfl := dd3
      obtain rfl := dd4
      obtain rfl := dd5
      obtain rfl := dd6
      obtain rfl := dd7
      obtain rfl := dd8
      obtain rfl := dd9
      obtain rfl := dd11
      obtain rfl := dd13
      obtain ⟨ao14, cp14, rfl, ho14⟩ := dd14
      obtain ⟨cc15, hc15, hs15⟩ := dd15
      obtain rfl := dd16
      obtain rfl := dd17
      obtain rfl := dd18
      obtain rfl := dd19
      obtain rfl := dd20
      have hRE := Lib.hid hR
      clear hR
      have hb9 := EW.out.trans ((E2.trans (hRE.out.mono E2.size)).mono EW.out.size)
      go_wp2
      go_ret
      exact ⟨rfl, hb9⟩
end Go.Proofs.Ytdcmoeklldkccaa
