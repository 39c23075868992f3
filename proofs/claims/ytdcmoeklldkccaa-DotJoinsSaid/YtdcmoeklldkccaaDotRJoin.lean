/- the document's Join; Join where one is not right. -/
import Derived.Test.YtdcmoeklldkccaaDotBox
import Derived.Test.YtdcmoeklldkccaaLawGathers
namespace Go.Proofs.Ytdcmoeklldkccaa
open Go Go.RowKit Go.ChangeShapes cl Go.Sort

def RJoinP (a b : dm.Ctx) (w : World) (e : Ending) (w' : World) : Prop := ∃ v c, e = .returned v ∧ OwnC w.heap.size w' v c ∧ (dm.Right a ∧ dm.Right b → dm.Is c (fun e => dm.Knows a e ∨ dm.Knows b e) (a.2.length + b.2.length)) ∧ (¬ (dm.Right a ∧ dm.Right b) → c = a) ∧ Below w.heap.size w w'
theorem right_is {a : dm.Ctx} (h : dm.Right a) : dm.Is a (fun e => dm.Knows a e) a.2.length := by
  obtain ⟨h1, h2⟩ := dm.lay_right h.kn0 (strict_up h.cup) (fun d hd => (h.cok d hd).1)
  have e : dm.layF (dm.kn a.1) a.2 = a := dm.ext h1 h fun d => (h2 d).trans Iff.rfl
  exact ⟨h, fun _ => Iff.rfl, by rw [← e]; exact dm.layF_len1 _ _, Nat.le_refl _⟩
/-- what the vector's first k bring -/
def SV (a b : dm.Ctx) (k : Nat) : Dot → Prop := fun e => dm.Knows a e ∨ (valid e = true ∧ ∃ x ∈ b.1.take k, x.1 = e.1 ∧ e.2 ≤ x.2)
theorem sv_more {a b c : dm.Ctx} {k m : Nat} (hb : dm.Right b) (hk : k < b.1.length) {x : Dot} (hx : x = b.1.getD k (0, 0)) (h : dm.Is c (SV a b k) m) :
    dm.Is (dm.layF (dm.raiseK c.1 x.1 x.2) c.2) (SV a b (k + 1)) m := by
  have hvx : valid x = true := by rw [hx]; exact hb.vok _ (dm.getD_mem hk)
  have hv := (dm.valid_iff x).1 hvx
  have hK : ∀ n, 0 ≤ dm.raiseK c.1 x.1 x.2 n ∧ dm.raiseK c.1 x.1 x.2 n ≤ 1099511627776 := fun n => by
    have h1 := h.right.kn0 n
    have h2 := h.right.kn0 x.1
    unfold dm.raiseK
    split <;> omega
  obtain ⟨h1, h2⟩ := dm.lay_right hK (strict_up h.right.cup) (fun d hd => (h.right.cok d hd).1)
  refine ⟨h1, fun e => ?_, dm.layF_len1 _ _, Nat.le_trans (dm.layF_len2 _ _) h.len2⟩
  rw [h2]
  have hke := h.know e
  unfold dm.Knows at hke
  have hS : SV a b (k + 1) e ↔ SV a b k e ∨ (valid e = true ∧ x.1 = e.1 ∧ e.2 ≤ x.2) := by
    unfold SV
    rw [dm.take_snoc hk, ← hx]
    simp only [List.mem_append, List.mem_cons, List.not_mem_nil, or_false]
    constructor
    · rintro (h | ⟨hve, y, hy | hy, h⟩)
      · exact Or.inl (Or.inl h)
      · exact Or.inl (Or.inr ⟨hve, y, hy, h⟩)
      · rw [hy] at h; exact Or.inr ⟨hve, h⟩
    · rintro ((h | ⟨hve, y, hy, h⟩) | ⟨hve, h⟩)
      · exact Or.inl h
      · exact Or.inr ⟨hve, y, Or.inl hy, h⟩
      · exact Or.inr ⟨hve, x, Or.inr rfl, h⟩
  rw [hS, ← hke]
  unfold dm.raiseK
  constructor
  · rintro ⟨hve, h | h⟩
    · split at h
      · rename_i he
        rcases (by omega : e.2 ≤ x.2 ∨ e.2 ≤ dm.kn c.1 x.1) with h | h
        · exact Or.inr ⟨hve, he.symm, h⟩
        · exact Or.inl ⟨hve, Or.inl (by rw [he]; exact h)⟩
      · exact Or.inl ⟨hve, Or.inl h⟩
    · exact Or.inl ⟨hve, Or.inr h⟩
  · rintro (⟨hve, h | h⟩ | ⟨hve, he, h⟩)
    · refine ⟨hve, Or.inl ?_⟩
      split
      · rename_i he; rw [he] at h; omega
      · exact h
    · exact ⟨hve, Or.inr h⟩
    · refine ⟨hve, Or.inl ?_⟩
      rw [if_pos he.symm]; omega
def SC (a b : dm.Ctx) (k : Nat) : Dot → Prop := fun e => SV a b b.1.length e ∨ (valid e = true ∧ e ∈ b.2.take k)
theorem sc_start {a b c : dm.Ctx} {m : Nat} (h : dm.Is c (SV a b b.1.length) m) : dm.Is c (SC a b 0) (m + 0) := ⟨h.right, fun e => by rw [h.know]; unfold SC; simp, h.len1, h.len2⟩
theorem sc_more {a b c c' : dm.Ctx} {k m : Nat} (hb : dm.Right b) (hk : k < b.2.length) {x : Dot} (hx : x = b.2.getD k (0, 0)) (h : dm.Is c (SC a b k) m)
    (h1 : valid x = true ∧ dm.Right c → dm.Is c' (fun e => dm.Knows c e ∨ e = x) (c.2.length + 1)) : dm.Is c' (SC a b (k + 1)) (m + 1) := by
  have hvx : valid x = true := by rw [hx]; exact (hb.cok _ (dm.getD_mem hk)).1
  have hi := h1 ⟨hvx, h.right⟩
  refine ⟨hi.right, fun e => ?_, hi.len1, Nat.le_trans hi.len2 (by have := h.len2; omega)⟩
  rw [hi.know, h.know]
  unfold SC
  rw [dm.take_snoc hk, ← hx]
  simp only [List.mem_append, List.mem_cons, List.not_mem_nil, or_false]
  constructor
  · rintro ((h | ⟨hv, h⟩) | rfl)
    · exact Or.inl h
    · exact Or.inr ⟨hv, Or.inl h⟩
    · exact Or.inr ⟨hvx, Or.inr rfl⟩
  · rintro (h | ⟨hv, h | h⟩)
    · exact Or.inl (Or.inl h)
    · exact Or.inl (Or.inr ⟨hv, h⟩)
    · exact Or.inr h
theorem sc_end {a b : dm.Ctx} (hb : dm.Right b) (e : Dot) : SC a b b.2.length e ↔ dm.Knows a e ∨ dm.Knows b e := by
  unfold SC SV
  rw [List.take_length, List.take_length]
  constructor
  · rintro ((h | ⟨hv, x, hx, h1, h2⟩) | ⟨hv, h⟩)
    · exact Or.inl h
    · refine Or.inr ⟨hv, Or.inl ?_⟩
      have := dm.kn_mem hb.vup hx
      rw [← h1, this]; exact h2
    · exact Or.inr ⟨hv, Or.inr h⟩
  · rintro (h | ⟨hv, h | h⟩)
    · exact Or.inl (Or.inl h)
    · rcases dm.kn_cases b.1 e.1 with ⟨h0, _⟩ | hm
      · have := (dm.valid_iff e).1 hv
        omega
      · exact Or.inl (Or.inr ⟨hv, _, hm, rfl, h⟩)
    · exact Or.inr ⟨hv, h⟩
set_option maxHeartbeats 8000000 in
set_option maxRecDepth 100000 in
theorem rjoin_any (a b : dm.Ctx) (va vb : Value) (w : World) (ha : CtxAt w w.heap.size va a) (hb : CtxAt w w.heap.size vb b) (hl1 : a.1.length ≤ 400000) (hl2 : a.2.length ≤ 100000) (hl3 : b.2.length ≤ 50000) :
    Calls Try.prog 23 #[va, vb] w (RJoinP a b w) := by
  obtain ⟨a1, n1, c1, a2, m1, c2, rfl, hn1, hm1⟩ := ha.form
  obtain ⟨b1, n2, d1, b2, m2, d2, rfl, hn2, hm2⟩ := hb.form
  have HCA := Lib.hid ha
  have HCB := Lib.hid hb
  have HN1 := Lib.hid hn2
  have HN2 := Lib.hid hm2
  have bd : ∀ {B : Nat} {v : Value} {l : List Dot}, Dots w B v l → l.length ≤ 9223372036854775807 := fun h => by
    obtain ⟨_, _, e, _, h9⟩ := h.form
    unfold maxLen at h9; exact h9
  have f1 : n2 ≤ 9223372036854775807 := by rw [hn2]; exact bd hb.parts.1
  have f2 : m2 ≤ 9223372036854775807 := by rw [hm2]; exact bd hb.parts.2
  clear ha hb hn1 hm1 hn2 hm2 bd
  obtain ⟨w1, hw1⟩ : ∃ W, W = ((w.alloc (.cells #[.slice a1 n1 c1, .slice a2 m1 c2] 24)).alloc (.cells #[.slice b1 n2 d1, .slice b2 m2 d2] 24)).alloc (.cells #[.slice none 0 0, .slice none 0 0] 24) := ⟨_, rfl⟩
  have E1 : Below w.heap.size w w1 := by rw [hw1]; exact (((Below.refl _ _).alloc (Nat.le_refl _) _).alloc (by simp) _).alloc (by simp <;> omega) _
  have hs1 : w1.heap.size = w.heap.size + 3 := by rw [hw1]; simp
  have x0 : w1.cell? ⟨w.heap.size, 0, none⟩ = some (.slice a1 n1 c1) := by rw [hw1]; go_simp
  have x1 : w1.cell? ⟨w.heap.size, 1, none⟩ = some (.slice a2 m1 c2) := by rw [hw1]; go_simp
  have x2 : w1.cell? ⟨w.heap.size + 1, 0, none⟩ = some (.slice b1 n2 d1) := by rw [hw1]; go_simp
  have x3 : w1.cell? ⟨w.heap.size + 1, 1, none⟩ = some (.slice b2 m2 d2) := by rw [hw1]; go_simp
  have x4 : w1.cell? ⟨w.heap.size + 1 + 1, 0, none⟩ = some (.slice none 0 0) := by rw [hw1]; go_simp
  have x5 : w1.cell? ⟨w.heap.size + 1 + 1, 1, none⟩ = some (.slice none 0 0) := by rw [hw1]; go_simp
  have x6 : w1.frozen? ⟨w.heap.size + 1 + 1, 0, none⟩ = false := by rw [hw1]; go_simp
  have x7 : w1.frozen? ⟨w.heap.size + 1 + 1, 1, none⟩ = false := by rw [hw1]; go_simp
  have HX : Hid (∀ W, Below (w.heap.size + 3) w1 W → W.cell? ⟨w.heap.size, 0, none⟩ = some (.slice a1 n1 c1) ∧ W.cell? ⟨w.heap.size, 1, none⟩ = some (.slice a2 m1 c2) ∧ W.cell? ⟨w.heap.size + 1, 0, none⟩ = some (.slice b1 n2 d1) ∧ W.cell? ⟨w.heap.size + 1, 1, none⟩ = some (.slice b2 m2 d2) ∧
      W.cell? ⟨w.heap.size + 1 + 1, 0, none⟩ = some (.slice none 0 0) ∧ W.cell? ⟨w.heap.size + 1 + 1, 1, none⟩ = some (.slice none 0 0) ∧ W.frozen? ⟨w.heap.size + 1 + 1, 0, none⟩ = false ∧ W.frozen? ⟨w.heap.size + 1 + 1, 1, none⟩ = false) := fun W hW =>
    ⟨(hW.cell (p := ⟨w.heap.size, 0, none⟩) (by show w.heap.size < _; omega)).trans x0, (hW.cell (p := ⟨w.heap.size, 1, none⟩) (by show w.heap.size < _; omega)).trans x1, (hW.cell (p := ⟨w.heap.size + 1, 0, none⟩) (by show w.heap.size + 1 < _; omega)).trans x2, (hW.cell (p := ⟨w.heap.size + 1, 1, none⟩) (by show w.heap.size + 1 < _; omega)).trans x3,
     (hW.cell (p := ⟨w.heap.size + 1 + 1, 0, none⟩) (by show w.heap.size + 1 + 1 < _; omega)).trans x4, (hW.cell (p := ⟨w.heap.size + 1 + 1, 1, none⟩) (by show w.heap.size + 1 + 1 < _; omega)).trans x5, (hW.frozen (p := ⟨w.heap.size + 1 + 1, 0, none⟩) (by show w.heap.size + 1 + 1 < _; omega)).trans x6, (hW.frozen (p := ⟨w.heap.size + 1 + 1, 1, none⟩) (by show w.heap.size + 1 + 1 < _; omega)).trans x7⟩
  have HW1 := Lib.hid hw1
  clear hw1 x0 x1 x2 x3 x4 x5 x6 x7
  have HLL := Lib.hid (And.intro hl1 (And.intro hl2 hl3))
  have HRA : Hid (∀ W, Below w.heap.size w W → Calls Try.prog 19 #[.agg #[.slice a1 n1 c1, .slice a2 m1 c2]] W (Said (dm.rightB a) W)) := fun W hW => rright_any a _ W (HCA.out.next hW)
  have HRB : Hid (∀ W, Below w.heap.size w W → Calls Try.prog 19 #[.agg #[.slice b1 n2 d1, .slice b2 m2 d2]] W (Said (dm.rightB b) W)) := fun W hW => rright_any b _ W (HCB.out.next hW)
  have HOW0 : Hid (∀ W, Below w.heap.size w W → Calls Try.prog 37 #[.agg #[.slice a1 n1 c1, .slice a2 m1 c2]] W (CopyP a W)) := fun W hW => own_any a _ W (HCA.out.next hW) (by have := HLL.out.1; omega) (by have := HLL.out.2; omega)
  have D : Below (w.heap.size + 3) w1 w1 := Below.refl _ _
  clear hl1 hl2 hl3
  by_cases hok : dm.Right a ∧ dm.Right b
  · rw [dm.rightB_true hok.1] at HRA
    rw [dm.rightB_true hok.2] at HRB
    have HRR := Lib.hid hok
    clear hok
    go_enter Try.func23, Try.ntmps23
    go_wp2_with fail
    rw [← HW1.out]
    (with_reducible refine (HRA.out _ E1).mono ?_)
    rintro e v1 ⟨rfl, b1⟩
    replace D := D.trans (b1.mono (by omega))
    clear b1
    obtain ⟨x0, x1, x2, x3, x4, x5, x6, x7⟩ := HX.out _ D
    go_wp2_with fail
    (with_reducible refine (HRB.out _ (E1.trans (D.mono (by omega)))).mono ?_)
    rintro e v2 ⟨rfl, b2⟩
    replace D := D.trans (b2.mono (by have := D.size; omega))
    clear b2
    clear x0 x1 x2 x3 x4 x5 x6 x7
    obtain ⟨x0, x1, x2, x3, x4, x5, x6, x7⟩ := HX.out _ D
    have D0 := D
    go_wp2_with fail
    (with_reducible refine (HOW0.out _ (E1.trans (D.mono (by omega)))).mono ?_)
    rintro e w3 ⟨v9, rfl, hown, b3⟩
    replace D := D.trans (b3.mono (by have := D.size; omega))
    obtain ⟨o1, l1, q1, o2, l2, q2, rfl⟩ := hown.form
    obtain ⟨w4, hw4⟩ : ∃ W, W = w3.alloc (.cells #[.slice o1 l1 q1, .slice o2 l2 q2] 24) := ⟨_, rfl⟩
    have k4 : Below w3.heap.size w3 w4 := by rw [hw4]; exact ctx_below
    have D4 : Below (w.heap.size + 3) w1 w4 := D.trans (k4.mono (by have := D.size; omega))
    have hz3 : w.heap.size + 3 ≤ w3.heap.size := by have := D.size; omega
    have HVC3 : Hid (w4.cell? ⟨w3.heap.size, 0, none⟩ = some (.slice o1 l1 q1) ∧ w4.cell? ⟨w3.heap.size, 1, none⟩ = some (.slice o2 l2 q2) ∧ w4.frozen? ⟨w3.heap.size, 0, none⟩ = false ∧ w4.frozen? ⟨w3.heap.size, 1, none⟩ = false ∧ w3.heap.size < w4.heap.size) := by
      rw [hw4]
      exact ⟨World.cell?_alloc_at _ _ _ _ rfl, World.cell?_alloc_at _ _ _ _ rfl, World.frozen?_alloc_at _ _ _ _ rfl, World.frozen?_alloc_at _ _ _ _ rfl, by simp⟩
    have HOC3 : Hid (OwnC (w.heap.size + 3) w4 (.agg #[.slice o1 l1 q1, .slice o2 l2 q2]) a) := (hown.mono (by have := D0.size; omega)).stay k4
    have HIS3 : Hid (dm.Is a (SV a b 0) (a.2.length)) := by
      have := right_is HRR.out.1
      exact ⟨this.right, fun e => by unfold SV; simp, this.len1, this.len2⟩
    have HVX : Hid (∀ (k : Nat) (x : Dot), k < b.1.length → x = b.1.getD k (0, 0) → 0 ≤ x.1 ∧ x.1 < 16 ∧ 1 ≤ x.2 ∧ x.2 ≤ 1099511627776) := fun k x hk hx => (dm.valid_iff x).1 (by rw [hx]; exact HRR.out.2.vok _ (dm.getD_mem hk))
    clear x0 x1 x2 x3 x4 x5 x6 x7
    obtain ⟨x0, x1, x2, x3, x4, x5, x6, x7⟩ := HX.out _ D4
    rw [hw4] at x0 x1 x2 x3
    have HW4 := Lib.hid hw4
    clear hown b3 hw4 k4 D D0
    go_wp2
    rw [← HW4.out]
    clear x0 x1 x2 x3 x4 x5 x6 x7
    go_loopw [25, 35] (fun i _ wr => ∃ (k : Nat) (r1 : Option Addr) (i1 j1 : Nat) (r2 : Option Addr) (i2 j2 : Nat) (c : dm.Ctx), i = .int .i64 k ∧ k ≤ n2 ∧ Hid (wr.cell? ⟨w3.heap.size, 0, none⟩ = some (.slice r1 i1 j1) ∧ wr.cell? ⟨w3.heap.size, 1, none⟩ = some (.slice r2 i2 j2) ∧ wr.frozen? ⟨w3.heap.size, 0, none⟩ = false ∧ wr.frozen? ⟨w3.heap.size, 1, none⟩ = false ∧ w3.heap.size < wr.heap.size) ∧
      Hid (OwnC (w.heap.size + 3) wr (.agg #[.slice r1 i1 j1, .slice r2 i2 j2]) c) ∧ Hid (dm.Is c (SV a b k) (a.2.length)) ∧ Below (w.heap.size + 3) w1 wr) (fun i _ _ => n2 - (intOf i).toNat)
    case atStart => exact ⟨0, o1, l1, q1, o2, l2, q2, a, rfl, Nat.zero_le _, HVC3.out, HOC3.out, HIS3.out, D4⟩
    case round =>
      rename World => wr
      obtain ⟨k, r1, i1, j1, r2, i2, j2, c, rfl, hk, HVC, HOC, HIS, D⟩ := hrel
      have hsz := D.size
      have E2 : Below w.heap.size w wr := E1.trans (D.mono (by omega))
      obtain ⟨x4, x5, x6, x7, hz⟩ := HVC.out
      by_cases hlt : k < n2
      · obtain ⟨b0, off, rfl, hB, p0, p1⟩ := Dots.get ((HCB.out.next E2).parts.1) HN1.out hlt
        have HKL : Hid (k < b.1.length) := by show k < _; rw [← HN1.out]; exact hlt
        obtain ⟨⟨u, v⟩, hx⟩ : ∃ x, x = b.1.getD k (0, 0) := ⟨_, rfl⟩
        rw [← hx] at p0 p1
        simp only at p0 p1
        have HXE := Lib.hid hx
        have hkI : (k : Int) < (n2 : Int) := by omega
        have hal : Below wr.heap.size wr (wr.alloc (.cells #[.int .i64 u, .int .i64 v] 26)) := ctx_below
        have hsa : (wr.alloc (.cells #[.int .i64 u, .int .i64 v] 26)).heap.size = wr.heap.size + 1 := World.size_alloc _ _
        have HRA1 := Lib.hid (raise_any c u v _ _ (HOC.out.at.next hal) (HVX.out _ _ HKL.out HXE.out).1 (HVX.out _ _ HKL.out HXE.out).2.1 (by have := (HVX.out _ _ HKL.out HXE.out).2.2.1; omega) (HVX.out _ _ HKL.out HXE.out).2.2.2 HIS.out.right.vok HIS.out.right.vup (fun d hd => (HIS.out.right.cok d hd).1) HIS.out.right.cup (fun d hd _ => (HIS.out.right.cok d hd).2) (by have := HIS.out.len1; omega) (by have := HIS.out.len2; have := HLL.out.2.1; omega))
        have y4 := (hal.cell (p := ⟨w3.heap.size, 0, none⟩) hz).trans x4
        have y5 := (hal.cell (p := ⟨w3.heap.size, 1, none⟩) hz).trans x5
        have y6 := (hal.frozen (p := ⟨w3.heap.size, 0, none⟩) hz).trans x6
        have y7 := (hal.frozen (p := ⟨w3.heap.size, 1, none⟩) hz).trans x7
        have HY := Lib.hid (And.intro y4 (And.intro y5 (And.intro y6 y7)))
        clear hx
        go_wp2_with fail
        (with_reducible refine HRA1.out.mono ?_)
        rintro e w5 ⟨v5, rfl, hown, b5⟩
        have HIS2 := Lib.hid (sv_more HRR.out.2 HKL.out HXE.out HIS.out)
        have D5 : Below (w.heap.size + 3) w1 w5 := (D.trans (hal.mono (by omega))).trans (b5.mono (by omega))
        clear x4 x5 x6 x7 y4 y5 y6 y7
        have hz5 : w3.heap.size < w5.heap.size := by have := b5.size; omega
        have x4 := (b5.cell (p := ⟨w3.heap.size, 0, none⟩) (by show w3.heap.size < _; omega)).trans HY.out.1
        have x5 := (b5.cell (p := ⟨w3.heap.size, 1, none⟩) (by show w3.heap.size < _; omega)).trans HY.out.2.1
        have x6 := (b5.frozen (p := ⟨w3.heap.size, 0, none⟩) (by show w3.heap.size < _; omega)).trans HY.out.2.2.1
        have x7 := (b5.frozen (p := ⟨w3.heap.size, 1, none⟩) (by show w3.heap.size < _; omega)).trans HY.out.2.2.2
        obtain ⟨o1, l1, q1, o2, l2, q2, rfl⟩ := hown.form
        have HOW := Lib.hid ((((hown.mono (B' := w3.heap.size + 1) (by omega)).set (a := ⟨w3.heap.size, 0, none⟩) (Nat.lt_succ_self _) (.slice o1 l1 q1)).set (a := ⟨w3.heap.size, 1, none⟩) (Nat.lt_succ_self _) (.slice o2 l2 q2)).mono (B' := w.heap.size + 3) (by omega))
        have D6 := (D5.setCell (p := ⟨w3.heap.size, 0, none⟩) (by show w.heap.size + 3 ≤ w3.heap.size; omega) (.slice o1 l1 q1)).setCell (p := ⟨w3.heap.size, 1, none⟩) (by show w.heap.size + 3 ≤ w3.heap.size; omega) (.slice o2 l2 q2)
        have HVC6 : Hid (((w5.setCell ⟨w3.heap.size, 0, none⟩ (.slice o1 l1 q1)).setCell ⟨w3.heap.size, 1, none⟩ (.slice o2 l2 q2)).cell? ⟨w3.heap.size, 0, none⟩ = some (.slice o1 l1 q1) ∧ ((w5.setCell ⟨w3.heap.size, 0, none⟩ (.slice o1 l1 q1)).setCell ⟨w3.heap.size, 1, none⟩ (.slice o2 l2 q2)).cell? ⟨w3.heap.size, 1, none⟩ = some (.slice o2 l2 q2) ∧
            ((w5.setCell ⟨w3.heap.size, 0, none⟩ (.slice o1 l1 q1)).setCell ⟨w3.heap.size, 1, none⟩ (.slice o2 l2 q2)).frozen? ⟨w3.heap.size, 0, none⟩ = false ∧ ((w5.setCell ⟨w3.heap.size, 0, none⟩ (.slice o1 l1 q1)).setCell ⟨w3.heap.size, 1, none⟩ (.slice o2 l2 q2)).frozen? ⟨w3.heap.size, 1, none⟩ = false ∧
            w3.heap.size < ((w5.setCell ⟨w3.heap.size, 0, none⟩ (.slice o1 l1 q1)).setCell ⟨w3.heap.size, 1, none⟩ (.slice o2 l2 q2)).heap.size) := by
          refine ⟨?_, ?_, ?_, ?_, by rw [size_set, size_set]; exact hz5⟩ <;> go_simp
        clear hown b5
        go_wp2
        go_roundw
        case rel => exact ⟨k + 1, _, _, _, _, _, _, _, by go_num, by omega, HVC6.out, HOW.out, HIS2.out, D6⟩
        case measure => simp [intOf]; omega
      · obtain rfl : n2 = k := by omega
        have HIS0 : Hid (dm.Is c (SC a b 0) (a.2.length + 0)) := by
          have := HIS.out
          rw [HN1.out] at this
          exact sc_start this
        have HVC0 := HVC
        have HOC0 := HOC
        have D0 := D
        have hxx := HX.out _ D
        obtain ⟨_, _, g2, g3, _, _, _, _⟩ := hxx
        clear HIS x4 x5 x6 x7 hz hk HVC HOC D E2
        go_wp2
        clear g2 g3
        go_loopw [39, 46] (fun i _ wr => ∃ (k : Nat) (r1 : Option Addr) (i1 j1 : Nat) (r2 : Option Addr) (i2 j2 : Nat) (c : dm.Ctx), i = .int .i64 k ∧ k ≤ m2 ∧ Hid (wr.cell? ⟨w3.heap.size, 0, none⟩ = some (.slice r1 i1 j1) ∧ wr.cell? ⟨w3.heap.size, 1, none⟩ = some (.slice r2 i2 j2) ∧ wr.frozen? ⟨w3.heap.size, 0, none⟩ = false ∧ wr.frozen? ⟨w3.heap.size, 1, none⟩ = false ∧ w3.heap.size < wr.heap.size) ∧
          Hid (OwnC (w.heap.size + 3) wr (.agg #[.slice r1 i1 j1, .slice r2 i2 j2]) c) ∧ Hid (dm.Is c (SC a b k) (a.2.length + k)) ∧ Below (w.heap.size + 3) w1 wr) (fun i _ _ => m2 - (intOf i).toNat)
        case atStart => exact ⟨0, r1, i1, j1, r2, i2, j2, c, rfl, Nat.zero_le _, HVC0.out, HOC0.out, HIS0.out, D0⟩
        case round =>
          rename World => wr
          obtain ⟨k, r1, i1, j1, r2, i2, j2, c, rfl, hk, HVC, HOC, HIS, D⟩ := hrel
          have hsz := D.size
          have E2 : Below w.heap.size w wr := E1.trans (D.mono (by omega))
          obtain ⟨x4, x5, x6, x7, hz⟩ := HVC.out
          by_cases hlt : k < m2
          · obtain ⟨b0, off, rfl, hB, p0, p1⟩ := Dots.get ((HCB.out.next E2).parts.2) HN2.out hlt
            have HKL : Hid (k < b.2.length) := by show k < _; rw [← HN2.out]; exact hlt
            obtain ⟨⟨u, v⟩, hx⟩ : ∃ x, x = b.2.getD k (0, 0) := ⟨_, rfl⟩
            rw [← hx] at p0 p1
            simp only at p0 p1
            have HXE := Lib.hid hx
            have hkI : (k : Int) < (m2 : Int) := by omega
            have hal : Below wr.heap.size wr (wr.alloc (.cells #[.int .i64 u, .int .i64 v] 26)) := ctx_below
            have hsa : (wr.alloc (.cells #[.int .i64 u, .int .i64 v] 26)).heap.size = wr.heap.size + 1 := World.size_alloc _ _
            have HRA1 := Lib.hid (radd_any c (u, v) _ _ (HOC.out.at.next hal) (by have := HIS.out.len1; omega) (by have := HIS.out.len2; have := HLL.out.2; have := HN2.out; omega))
            have y4 := (hal.cell (p := ⟨w3.heap.size, 0, none⟩) hz).trans x4
            have y5 := (hal.cell (p := ⟨w3.heap.size, 1, none⟩) hz).trans x5
            have y6 := (hal.frozen (p := ⟨w3.heap.size, 0, none⟩) hz).trans x6
            have y7 := (hal.frozen (p := ⟨w3.heap.size, 1, none⟩) hz).trans x7
            have HY := Lib.hid (And.intro y4 (And.intro y5 (And.intro y6 y7)))
            clear hx
            go_wp2_with fail
            (with_reducible refine HRA1.out.mono ?_)
            rintro e w5 ⟨v5, c', rfl, hown, hi1, _, b5⟩
            have HIS2 := Lib.hid (sc_more HRR.out.2 HKL.out HXE.out HIS.out hi1)
            clear hi1
            have D5 : Below (w.heap.size + 3) w1 w5 := (D.trans (hal.mono (by omega))).trans (b5.mono (by omega))
            clear x4 x5 x6 x7 y4 y5 y6 y7
            have hz5 : w3.heap.size < w5.heap.size := by have := b5.size; omega
            have x4 := (b5.cell (p := ⟨w3.heap.size, 0, none⟩) (by show w3.heap.size < _; omega)).trans HY.out.1
            have x5 := (b5.cell (p := ⟨w3.heap.size, 1, none⟩) (by show w3.heap.size < _; omega)).trans HY.out.2.1
            have x6 := (b5.frozen (p := ⟨w3.heap.size, 0, none⟩) (by show w3.heap.size < _; omega)).trans HY.out.2.2.1
            have x7 := (b5.frozen (p := ⟨w3.heap.size, 1, none⟩) (by show w3.heap.size < _; omega)).trans HY.out.2.2.2
            obtain ⟨o1, l1, q1, o2, l2, q2, rfl⟩ := hown.form
            have HOW := Lib.hid ((((hown.mono (B' := w3.heap.size + 1) (by omega)).set (a := ⟨w3.heap.size, 0, none⟩) (Nat.lt_succ_self _) (.slice o1 l1 q1)).set (a := ⟨w3.heap.size, 1, none⟩) (Nat.lt_succ_self _) (.slice o2 l2 q2)).mono (B' := w.heap.size + 3) (by omega))
            have D6 := (D5.setCell (p := ⟨w3.heap.size, 0, none⟩) (by show w.heap.size + 3 ≤ w3.heap.size; omega) (.slice o1 l1 q1)).setCell (p := ⟨w3.heap.size, 1, none⟩) (by show w.heap.size + 3 ≤ w3.heap.size; omega) (.slice o2 l2 q2)
            have HVC6 : Hid (((w5.setCell ⟨w3.heap.size, 0, none⟩ (.slice o1 l1 q1)).setCell ⟨w3.heap.size, 1, none⟩ (.slice o2 l2 q2)).cell? ⟨w3.heap.size, 0, none⟩ = some (.slice o1 l1 q1) ∧ ((w5.setCell ⟨w3.heap.size, 0, none⟩ (.slice o1 l1 q1)).setCell ⟨w3.heap.size, 1, none⟩ (.slice o2 l2 q2)).cell? ⟨w3.heap.size, 1, none⟩ = some (.slice o2 l2 q2) ∧
                ((w5.setCell ⟨w3.heap.size, 0, none⟩ (.slice o1 l1 q1)).setCell ⟨w3.heap.size, 1, none⟩ (.slice o2 l2 q2)).frozen? ⟨w3.heap.size, 0, none⟩ = false ∧ ((w5.setCell ⟨w3.heap.size, 0, none⟩ (.slice o1 l1 q1)).setCell ⟨w3.heap.size, 1, none⟩ (.slice o2 l2 q2)).frozen? ⟨w3.heap.size, 1, none⟩ = false ∧
                w3.heap.size < ((w5.setCell ⟨w3.heap.size, 0, none⟩ (.slice o1 l1 q1)).setCell ⟨w3.heap.size, 1, none⟩ (.slice o2 l2 q2)).heap.size) := by
              refine ⟨?_, ?_, ?_, ?_, by rw [size_set, size_set]; exact hz5⟩ <;> go_simp
            clear hown b5
            go_wp2
            go_roundw
            case rel => exact ⟨k + 1, _, _, _, _, _, _, _, by go_num, by omega, HVC6.out, HOW.out, HIS2.out, D6⟩
            case measure => simp [intOf]; omega
          · obtain rfl : m2 = k := by omega
            have HI9 : Hid (dm.Is c (fun e => dm.Knows a e ∨ dm.Knows b e) (a.2.length + b.2.length)) := by
              have h1 := HIS.out
              rw [HN2.out] at h1
              exact ⟨h1.right, fun e => by rw [h1.know, sc_end HRR.out.2], h1.len1, h1.len2⟩
            have hxx := HX.out _ D
            obtain ⟨_, _, _, _, g4, g5, g6, g7⟩ := hxx
            have HOW := Lib.hid ((HOC.out.set (a := ⟨w.heap.size + 1 + 1, 0, none⟩) (by show w.heap.size + 1 + 1 < _; omega) (.slice r1 i1 j1)).set (a := ⟨w.heap.size + 1 + 1, 1, none⟩) (by show w.heap.size + 1 + 1 < _; omega) (.slice r2 i2 j2))
            have HB9 := Lib.hid ((E2.setCell (p := ⟨w.heap.size + 1 + 1, 0, none⟩) (by show w.heap.size ≤ w.heap.size + 1 + 1; omega) (.slice r1 i1 j1)).setCell (p := ⟨w.heap.size + 1 + 1, 1, none⟩) (by show w.heap.size ≤ w.heap.size + 1 + 1; omega) (.slice r2 i2 j2))
            go_wp2
            refine bodyPost_ret (v := .agg #[.slice r1 i1 j1, .slice r2 i2 j2]) (by simp [results, Try.results23, go_sem, g4, g5]) rfl ?_
            exact ⟨_, c, rfl, HOW.out.mono (by omega), fun _ => HI9.out, fun h => absurd HRR.out h, HB9.out⟩
  · have hno := Lib.hid hok
    cases hra : dm.rightB a with
    | false =>
      rw [hra] at HRA
      clear hra hok
      go_enter Try.func23, Try.ntmps23
      go_wp2_with fail
      rw [← HW1.out]
      (with_reducible refine (HRA.out _ E1).mono ?_)
      rintro e v1 ⟨rfl, b1⟩
      replace D := D.trans (b1.mono (by omega))
      clear b1
      obtain ⟨x0, x1, x2, x3, x4, x5, x6, x7⟩ := HX.out _ D
      have D0 := D
      go_wp2_with fail
      (with_reducible refine (HOW0.out _ (E1.trans (D.mono (by omega)))).mono ?_)
      rintro e v3 ⟨v9, rfl, hown, b3⟩
      replace D := D.trans (b3.mono (by have := D.size; omega))
      clear b3
      clear x0 x1 x2 x3 x4 x5 x6 x7
      obtain ⟨x0, x1, x2, x3, x4, x5, x6, x7⟩ := HX.out _ D
      obtain ⟨o1, l1, q1, o2, l2, q2, rfl⟩ := hown.form
      have HOW := Lib.hid (((hown.mono (B' := w.heap.size + 3) (by have := D0.size; omega)).set (a := ⟨w.heap.size + 1 + 1, 0, none⟩) (by show w.heap.size + 1 + 1 < _; omega) (.slice o1 l1 q1)).set (a := ⟨w.heap.size + 1 + 1, 1, none⟩) (by show w.heap.size + 1 + 1 < _; omega) (.slice o2 l2 q2))
      have hb9 := (E1.trans (D.mono (by omega)))
      have HB9 := Lib.hid ((hb9.setCell (p := ⟨w.heap.size + 1 + 1, 0, none⟩) (by show w.heap.size ≤ w.heap.size + 1 + 1; omega) (.slice o1 l1 q1)).setCell (p := ⟨w.heap.size + 1 + 1, 1, none⟩) (by show w.heap.size ≤ w.heap.size + 1 + 1; omega) (.slice o2 l2 q2))
      clear hown hb9
      go_wp2
      refine bodyPost_ret (v := .agg #[.slice o1 l1 q1, .slice o2 l2 q2]) (by simp [results, Try.results23, go_sem, x4, x5]) rfl ?_
      exact ⟨_, a, rfl, HOW.out.mono (by omega), fun h => absurd h hno.out, fun _ => rfl, HB9.out⟩
    | true =>
      have hrb : dm.rightB b = false := dm.rightB_false fun h => hok ⟨Classical.byContradiction (fun h2 => by rw [dm.rightB_false h2] at hra; cases hra), h⟩
      rw [hra] at HRA
      rw [hrb] at HRB
      clear hra hrb hok
      go_enter Try.func23, Try.ntmps23
      go_wp2_with fail
      rw [← HW1.out]
      (with_reducible refine (HRA.out _ E1).mono ?_)
      rintro e v1 ⟨rfl, b1⟩
      replace D := D.trans (b1.mono (by omega))
      clear b1
      obtain ⟨x0, x1, x2, x3, x4, x5, x6, x7⟩ := HX.out _ D
      go_wp2_with fail
      (with_reducible refine (HRB.out _ (E1.trans (D.mono (by omega)))).mono ?_)
      rintro e v2 ⟨rfl, b2⟩
      replace D := D.trans (b2.mono (by have := D.size; omega))
      clear b2
      clear x0 x1 x2 x3 x4 x5 x6 x7
      obtain ⟨x0, x1, x2, x3, x4, x5, x6, x7⟩ := HX.out _ D
      have D0 := D
      go_wp2_with fail
      (with_reducible refine (HOW0.out _ (E1.trans (D.mono (by omega)))).mono ?_)
      rintro e v3 ⟨v9, rfl, hown, b3⟩
      replace D := D.trans (b3.mono (by have := D.size; omega))
      clear b3
      clear x0 x1 x2 x3 x4 x5 x6 x7
      obtain ⟨x0, x1, x2, x3, x4, x5, x6, x7⟩ := HX.out _ D
      obtain ⟨o1, l1, q1, o2, l2, q2, rfl⟩ := hown.form
      have HOW := Lib.hid (((hown.mono (B' := w.heap.size + 3) (by have := D0.size; omega)).set (a := ⟨w.heap.size + 1 + 1, 0, none⟩) (by show w.heap.size + 1 + 1 < _; omega) (.slice o1 l1 q1)).set (a := ⟨w.heap.size + 1 + 1, 1, none⟩) (by show w.heap.size + 1 + 1 < _; omega) (.slice o2 l2 q2))
      have hb9 := (E1.trans (D.mono (by omega)))
      have HB9 := Lib.hid ((hb9.setCell (p := ⟨w.heap.size + 1 + 1, 0, none⟩) (by show w.heap.size ≤ w.heap.size + 1 + 1; omega) (.slice o1 l1 q1)).setCell (p := ⟨w.heap.size + 1 + 1, 1, none⟩) (by show w.heap.size ≤ w.heap.size + 1 + 1; omega) (.slice o2 l2 q2))
      clear hown hb9
      go_wp2
      refine bodyPost_ret (v := .agg #[.slice o1 l1 q1, .slice o2 l2 q2]) (by simp [results, Try.results23, go_sem, x4, x5]) rfl ?_
      exact ⟨_, a, rfl, HOW.out.mono (by omega), fun h => absurd h hno.out, fun _ => rfl, HB9.out⟩
end Go.Proofs.Ytdcmoeklldkccaa
