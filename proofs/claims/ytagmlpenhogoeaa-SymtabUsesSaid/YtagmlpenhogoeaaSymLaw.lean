/- A table kept in a variable; the law's same on equal tables; awake. -/
import Derived.Test.YtagmlpenhogoeaaSymDrop
import Derived.Deep.RegionHeld3
namespace Go.Proofs.Ytagmlpenhogoeaa
open Go.RowKit Go.ChangeShapes cl

/-- the variable at block B1 holds a table with the symbols L, which lie elsewhere -/
def St (w : World) (B1 : Nat) (c : Int) (L : List tb.Sym) (ao : Option Addr) (n cap : Nat) (W : World) : Prop :=
  Tabs W W.heap.size (.slice ao n cap) L ∧ (∀ b off, ao = some ⟨b, off, none⟩ → b ≠ B1) ∧ W.cell? ⟨B1, 0, none⟩ = some (.slice ao n cap) ∧ W.cell? ⟨B1, 1, none⟩ = some (.int .i64 c) ∧
  W.frozen? ⟨B1, 0, none⟩ = false ∧ W.frozen? ⟨B1, 1, none⟩ = false ∧ Below w.heap.size w W ∧ w.heap.size ≤ B1 ∧ B1 < W.heap.size
theorem St.step {w W W' : World} {B1 n cap : Nat} {c : Int} {L : List tb.Sym} {ao : Option Addr} (h : St w B1 c L ao n cap W) (hb : Below W.heap.size W W') : St w B1 c L ao n cap W' := by
  obtain ⟨h0, h1, h2, h3, h4, h5, h6, h7, h8⟩ := h
  exact ⟨h0.next hb, h1, (hb.cell (p := ⟨B1, 0, none⟩) h8).trans h2, (hb.cell (p := ⟨B1, 1, none⟩) h8).trans h3, (hb.frozen (p := ⟨B1, 0, none⟩) h8).trans h4, (hb.frozen (p := ⟨B1, 1, none⟩) h8).trans h5, h6.trans (hb.mono h6.size), h7, by have := hb.size; omega⟩
theorem Tabs.lt {w : World} {B n cap : Nat} {ao : Option Addr} {L : List tb.Sym} (h : Tabs w B (.slice ao n cap) L) (hn : 0 < L.length) : ∀ b off, ao = some ⟨b, off, none⟩ → b < B := by
  intro b off e
  obtain ⟨_, ao', c', e1, _, _, h4⟩ := h
  simp only [Value.slice.injEq] at e1
  obtain ⟨b', off', e2, hB, _⟩ := h4 hn
  rw [e1.1, e2] at e
  simp only [Option.some.injEq, Addr.mk.injEq] at e
  omega
theorem St.start {w W : World} {n cap : Nat} {c : Int} {L : List tb.Sym} {ao : Option Addr} {t : TypeId} (h : Tabs W W.heap.size (.slice ao n cap) L) (hlt : ∀ b off, ao = some ⟨b, off, none⟩ → b < W.heap.size) (hb : Below w.heap.size w W) :
    St w W.heap.size c L ao n cap (W.alloc (.cells #[.slice ao n cap, .int .i64 c] t)) := by
  have hB : Below W.heap.size W (W.alloc (.cells #[.slice ao n cap, .int .i64 c] t)) := (Below.refl _ _).alloc (Nat.le_refl _) _
  obtain ⟨a0, a1, f0, f1, _⟩ := two (w := W) (x := .slice ao n cap) (y := .int .i64 c) (t := t) (Below.refl _ _)
  exact ⟨h.next hB, fun b off e => by have := hlt b off e; omega, a0, a1, f0, f1, hb.trans (hB.mono hb.size), hb.size, by rw [World.size_alloc]; omega⟩
theorem St.store {w W : World} {B1 n cap n' cap' : Nat} {c : Int} {L L' : List tb.Sym} {ao ao' : Option Addr} (h : St w B1 c L ao n cap W) (ht : Tabs W W.heap.size (.slice ao' n' cap') L') (hne : ∀ b off, ao' = some ⟨b, off, none⟩ → b ≠ B1) :
    St w B1 c L' ao' n' cap' ((W.setCell ⟨B1, 0, none⟩ (.slice ao' n' cap')).setCell ⟨B1, 1, none⟩ (.int .i64 c)) := by
  obtain ⟨h0, h1, h2, h3, h4, h5, h6, h7, h8⟩ := h
  have hsz : ((W.setCell ⟨B1, 0, none⟩ (.slice ao' n' cap')).setCell ⟨B1, 1, none⟩ (.int .i64 c)).heap.size = W.heap.size := by rw [World.size_setCell, World.size_setCell]
  refine ⟨?_, hne, ?_, ?_, by simpa using h4, by simpa using h5, (h6.setCell h7 _).setCell h7 _, h7, by rw [hsz]; exact h8⟩
  · rw [hsz]
    obtain ⟨g0, ao2, cap2, e, g1, g2, g3⟩ := ht
    refine ⟨g0, ao2, cap2, e, g1, g2, fun hp => ?_⟩
    obtain ⟨b, off, e2, hB, hc⟩ := g3 hp
    simp only [Value.slice.injEq] at e
    have hb := hne b off (by rw [e.1, e2])
    refine ⟨b, off, e2, hB, fun j u hj => ?_⟩
    rw [World.cell?_setCell_far _ _ _ _ (show B1 ≠ b from fun e => hb e.symm), World.cell?_setCell_far _ _ _ _ (show B1 ≠ b from fun e => hb e.symm)]
    exact hc j u hj
  · rw [World.cell?_setCell_other _ _ _ _ (by simp), World.cell?_setCell_same _ _ _ h2]
  · rw [World.cell?_setCell_same _ _ _ (u := .int .i64 c) (by rw [World.cell?_setCell_other _ _ _ _ (by simp)]; exact h3)]
/-- where the answer of Put and Drop lies -/
theorem St.apart {w Wc : World} {B1 n cap n' cap' : Nat} {c : Int} {L : List tb.Sym} {ao ao' : Option Addr} (h : St w B1 c L ao n cap Wc) (hv : Value.slice ao n cap = .slice ao' n' cap' ∨ ∃ g, ao' = some ⟨g, 0, none⟩ ∧ Wc.heap.size ≤ g) :
    ∀ b off, ao' = some ⟨b, off, none⟩ → b ≠ B1 := by
  intro b off e
  rcases hv with h1 | ⟨g, h1, h2⟩
  · simp only [Value.slice.injEq] at h1
    exact h.2.1 b off (by rw [h1.1, e])
  · rw [h1] at e
    simp only [Option.some.injEq, Addr.mk.injEq] at e
    have := h.2.2.2.2.2.2.2.2
    omega

set_option maxHeartbeats 1600000 in
set_option maxRecDepth 100000 in
theorem tsame_eq (c : Int) (L : List tb.Sym) (va vb : Value) (w : World) (ha : Tabs w w.heap.size va L) (hb : Tabs w w.heap.size vb L) :
    Calls Try.prog 16 #[.agg #[va, .int .i64 c], .agg #[vb, .int .i64 c]] w (Said true w) := by
  obtain ⟨n, hn⟩ : ∃ n, n = L.length := ⟨_, rfl⟩
  obtain ⟨ao, ca, rfl, hnm⟩ : ∃ ao cap, va = .slice ao n cap ∧ n ≤ maxLen := by
    obtain ⟨ao, cap, e, _, hm⟩ := ha.form
    exact ⟨ao, cap, by rw [hn]; exact e, by rw [hn]; exact hm⟩
  obtain ⟨bo, cb, rfl⟩ : ∃ ao cap, vb = .slice ao n cap := by
    obtain ⟨ao, cap, e, _⟩ := hb.form
    exact ⟨ao, cap, by rw [hn]; exact e⟩
  unfold maxLen at hnm
  have HCA := Lib.hid ha
  have HCB := Lib.hid hb
  have HN := Lib.hid hn
  clear ha hb hn
  have hA0 : Below (w.heap.size + 2) ((w.alloc (.cells #[.slice ao n ca, .int .i64 c] 24)).alloc (.cells #[.slice bo n cb, .int .i64 c] 24)) ((w.alloc (.cells #[.slice ao n ca, .int .i64 c] 24)).alloc (.cells #[.slice bo n cb, .int .i64 c] 24)) := Below.refl _ _
  go_enter Try.func16, Try.ntmps16
  go_wp2
  go_loopw [5, 23] (fun _ i wr => ∃ k : Nat, i = .int .i64 k ∧ k ≤ n ∧ Below (w.heap.size + 2) ((w.alloc (.cells #[.slice ao n ca, .int .i64 c] 24)).alloc (.cells #[.slice bo n cb, .int .i64 c] 24)) wr) (fun _ i _ => n - (intOf i).toNat)
  case atStart => exact ⟨0, rfl, by omega, hA0⟩
  case round =>
    obtain ⟨k, rfl, hk, hbW⟩ := hrel
    obtain ⟨a0, a1, b0, b1, f0, f1, hz, hbl⟩ := boxes2 hbW
    by_cases hlt : k < n
    · obtain ⟨ba, oa, rfl, hBa, p0, p1⟩ := Tabs.get HCA.out HN.out hlt
      obtain ⟨bb, ob, rfl, hBb, r0, r1⟩ := Tabs.get HCB.out HN.out hlt
      have c0 := (hbl.cell (p := ⟨ba, oa + k * 2, none⟩) hBa).trans p0
      have c1 := (hbl.cell (p := ⟨ba, oa + k * 2 + 1, none⟩) hBa).trans p1
      have d0 := (hbl.cell (p := ⟨bb, ob + k * 2, none⟩) hBb).trans r0
      have d1 := (hbl.cell (p := ⟨bb, ob + k * 2 + 1, none⟩) hBb).trans r1
      clear p0 p1 r0 r1
      have hkI : (k : Int) < (n : Int) := by omega
      obtain ⟨⟨x0, x1⟩, hx⟩ : ∃ x, x = tb.at_ L k := ⟨_, rfl⟩
      rw [← hx] at c0 c1 d0 d1
      simp only at c0 c1 d0 d1
      clear hx
      go_wp2
      go_quiet (fail)
      go_wp2
      go_roundw
      case rel => exact ⟨k + 1, by go_num, by omega, below_drewN hbW _⟩
      case measure => simp [intOf]; omega
    · go_wp2
      go_ret
      exact ⟨rfl, hbl⟩

set_option maxHeartbeats 400000 in
theorem new_5 (w : World) : Calls Try.prog 26 #[.int .i64 5] w fun e w' => e = .returned (.agg #[.slice none 0 0, .int .i64 5]) ∧ Below w.heap.size w w' := by
  go_enter Try.func26, Try.ntmps26
  go_wp2
  exact bodyPost_ret (v := .agg #[.slice none 0 0, .int .i64 5]) (by simp [results, Try.results26, go_sem]) rfl ⟨rfl, ((Below.refl _ _).alloc (Nat.le_refl _) _)⟩

abbrev SX : ByteArray := ⟨#[120]⟩
abbrev SY : ByteArray := ⟨#[121]⟩
theorem aw_put1 : tb.put 5 [] SX = ([(SX, 1)], 0, 0) := by decide +kernel
theorem aw_put2 : tb.put 5 [(SX, 1)] SY = ([(SX, 1), (SY, 1)], 1, 0) := by decide +kernel
theorem aw_put3 : tb.put 5 [(SX, 1), (SY, 1)] SX = ([(SX, 2), (SY, 1)], 0, 0) := by decide +kernel
theorem aw_used : tb.used [(SX, 2), (SY, 1)] 1 = true := by decide +kernel
theorem aw_right1 : tb.Right 5 [(SX, 1)] := by
  have := tb.right_put (s := SX) (tb.right_nil (c := 5) (by decide) (by decide))
  rw [aw_put1] at this; exact this
theorem aw_right2 : tb.Right 5 [(SX, 1), (SY, 1)] := by
  have := tb.right_put (s := SY) aw_right1
  rw [aw_put2] at this; exact this

set_option maxHeartbeats 3200000 in
set_option maxRecDepth 100000 in
theorem awake_any (w : World) : Calls Try.prog 9 #[] w (Said true w) := by
  have P1 : Hid (∀ W, Calls Try.prog 10 #[.agg #[.slice none 0 0, .int .i64 5], .string ⟨#[120]⟩] W (fun e w' => ∃ (ao : Option Addr) (cap : Nat), e = .returned (.tuple #[.agg #[.slice ao 1 cap, .int .i64 5], .int .i64 0, .int .i64 0]) ∧ Tabs w' w'.heap.size (.slice ao 1 cap) [(SX, 1)] ∧ Below W.heap.size W w')) := fun W => by
    have h := put_right 5 [] SX (.slice none 0 0) W (tb.right_nil (by decide) (by decide)) (by decide) (Cells.nil _ _ _)
    rw [aw_put1] at h; exact h.mono fun e w' ⟨ao, cap, h1, _, h2, h3⟩ => ⟨ao, cap, h1, h2, h3⟩
  have P2 : Hid (∀ vs W, Tabs W W.heap.size vs [(SX, 1)] → Calls Try.prog 10 #[.agg #[vs, .int .i64 5], .string ⟨#[121]⟩] W (fun e w' => ∃ (ao : Option Addr) (cap : Nat), e = .returned (.tuple #[.agg #[.slice ao 2 cap, .int .i64 5], .int .i64 1, .int .i64 0]) ∧ (vs = .slice ao 2 cap ∨ ∃ g, ao = some ⟨g, 0, none⟩ ∧ W.heap.size ≤ g) ∧ Tabs w' w'.heap.size (.slice ao 2 cap) [(SX, 1), (SY, 1)] ∧ Below W.heap.size W w')) := fun vs W ht => by
    have h := put_right 5 [(SX, 1)] SY vs W aw_right1 (by decide) ht
    rw [aw_put2] at h; exact h
  have P3 : Hid (∀ vs W, Tabs W W.heap.size vs [(SX, 1), (SY, 1)] → Calls Try.prog 10 #[.agg #[vs, .int .i64 5], .string ⟨#[120]⟩] W (fun e w' => ∃ (ao : Option Addr) (cap : Nat), e = .returned (.tuple #[.agg #[.slice ao 2 cap, .int .i64 5], .int .i64 0, .int .i64 0]) ∧ (vs = .slice ao 2 cap ∨ ∃ g, ao = some ⟨g, 0, none⟩ ∧ W.heap.size ≤ g) ∧ Tabs w' w'.heap.size (.slice ao 2 cap) [(SX, 2), (SY, 1)] ∧ Below W.heap.size W w')) := fun vs W ht => by
    have h := put_right 5 [(SX, 1), (SY, 1)] SX vs W aw_right2 (by decide) ht
    rw [aw_put3] at h; exact h
  have T1 : Hid (∀ vs W, Tabs W W.heap.size vs [(SX, 2), (SY, 1)] → Calls Try.prog 24 #[.agg #[vs, .int .i64 5], .int .i64 1] W (fun e w' => e = .returned (.tuple #[.string ⟨#[121]⟩, .bool true]) ∧ Below W.heap.size W w')) := fun vs W ht => by
    have h := text_any 5 1 [(SX, 2), (SY, 1)] vs W ht
    unfold TextP at h
    rw [aw_used] at h; exact h
  go_enter Try.func9, Try.ntmps9
  go_wp2_with fail
  (with_reducible refine (new_5 _).mono ?_)
  rintro e w1 ⟨rfl, hb1⟩
  go_wp2_with fail
  (with_reducible refine (P1.out _).mono ?_)
  rintro e w2 ⟨a2, c2, rfl, ht2, hb2⟩
  have hbW2 := hb1.trans (hb2.mono hb1.size)
  have HS2 := Lib.hid (St.start (w := w) (c := 5) (t := 24) ht2 (Tabs.lt ht2 (by decide)) hbW2)
  have HP2 := Lib.hid (P2.out _ _ HS2.out.1)
  clear ht2
  go_wp2_with fail
  (with_reducible refine HP2.out.mono ?_)
  rintro e w3 ⟨a3, c3, rfl, hv3, ht3, hb3⟩
  have HS3 := Lib.hid (HS2.out.step hb3)
  have HS4 := Lib.hid (St.store HS3.out ht3 (St.apart HS2.out hv3))
  have HP3 := Lib.hid (P3.out _ _ HS4.out.1)
  obtain ⟨_, _, q0, q1, f0, f1, _, _, _⟩ := HS3.out
  clear ht3 hv3
  go_wp2_with fail
  (with_reducible refine HP3.out.mono ?_)
  rintro e w5 ⟨a5, c5, rfl, hv5, ht5, hb5⟩
  have HS5 := Lib.hid (HS4.out.step hb5)
  have HS6 := Lib.hid (St.store HS5.out ht5 (St.apart HS4.out hv5))
  have HT6 := Lib.hid (T1.out _ _ HS6.out.1)
  clear q0 q1 f0 f1
  obtain ⟨_, _, q0, q1, f0, f1, _, _, _⟩ := HS5.out
  clear ht5 hv5
  go_wp2_with fail
  (with_reducible refine HT6.out.mono ?_)
  rintro e w7 ⟨rfl, hb7⟩
  have HS7 := Lib.hid (HS6.out.step hb7)
  clear q0 q1 f0 f1
  obtain ⟨ht7, _, q0, q1, f0, f1, hbl7, _, _⟩ := HS7.out
  obtain ⟨b, off, rfl, hB, p0, p1⟩ := Tabs.get ht7 rfl (j := 0) (by decide)
  have p2 : w7.cell? ⟨b, off + 1, none⟩ = some (.int .i64 2) := by simpa [tb.at_] using p1
  have p3 : w7.cell? ⟨b, off, none⟩ = some (.string SX) := by simpa [tb.at_] using p0
  clear p0 p1 ht7
  go_wp2
  go_ret
  exact ⟨rfl, hbl7⟩
end Go.Proofs.Ytagmlpenhogoeaa
