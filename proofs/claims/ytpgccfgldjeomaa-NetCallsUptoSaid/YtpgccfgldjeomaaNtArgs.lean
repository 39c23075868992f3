/- A message as an argument. -/
import Derived.Test.YtpgccfgldjeomaaNtTake0
import Derived.WideShapes
import Derived.ChangeArms
namespace Go.Proofs.Ytpgccfgldjeomaa
open Go Go.RowKit Go.WideShapes Go.ChangeShapes cl
section
variable {H : Type} {enc : TypeId × Value → H} {W : World}
theorem part {P : Program} {T : TypeId} {fs : Array Field} {fuel : Nat} {cs : List Value} {x : DataW H × List MemPlace} (ht : P.underlying T = some (.struct fs)) (h : DataW.trod enc P W 0 (fun _ => true) true fuel T cs = some x) (i : Nat) (f : Field) (hf : fs[i]? = some f) :
    ∃ n y, DataW.trod enc P W 0 (fun _ => true) true n f.type ((cs.drop f.offset).take (P.cellsOf f.type)) = some y := by
  obtain ⟨xs, n, _, _, _, hl, hp⟩ := DataW.trod_struct ht h
  have hi := (Array.getElem?_eq_some_iff.1 hf).1
  have := hp i f hf
  rw [List.getElem?_eq_getElem (by omega)] at this
  exact ⟨n, _, this⟩
theorem ci : Try.prog.cellsOf 3 = 1 := by kernel_rfl
theorem cst : Try.prog.cellsOf 9 = 1 := by kernel_rfl
theorem cdt : Try.prog.cellsOf 57 = 2 := by kernel_rfl
theorem clk : Try.prog.cellsOf 95 = 3 := by kernel_rfl
theorem cen : Try.prog.cellsOf 78 = 5 := by kernel_rfl
theorem ccx : Try.prog.cellsOf 26 = 2 := by kernel_rfl
theorem cdl : Try.prog.cellsOf 28 = 4 := by kernel_rfl
theorem cmt : Try.prog.cellsOf 30 = 3 := by kernel_rfl
theorem cms : Try.prog.cellsOf 34 = 16 := by kernel_rfl
theorem cer : Try.prog.cellsOf 32 = 1 := by kernel_rfl
theorem csd : Try.prog.cellsOf 24 = 1 := by kernel_rfl
theorem csl : Try.prog.cellsOf 76 = 1 := by kernel_rfl
theorem cse : Try.prog.cellsOf 23 = 1 := by kernel_rfl
theorem css : Try.prog.cellsOf 31 = 1 := by kernel_rfl
theorem int_cell {T : TypeId} {fuel : Nat} {v : Value} {x : DataW H × List MemPlace} (hT : Try.prog.underlying T = some (.int .i64)) (h : DataW.trod enc Try.prog W 0 (fun _ => true) true fuel T [v] = some x) : ∃ n, v = .int .i64 n := by
  obtain ⟨n, e, _, _⟩ := DataW.trod_int hT h
  simp only [List.cons.injEq, and_true] at e
  exact ⟨n, e⟩
theorem str_cell {fuel : Nat} {v : Value} {x : DataW H × List MemPlace} (h : DataW.trod enc Try.prog W 0 (fun _ => true) true fuel 9 [v] = some x) : ∃ s, v = .string s ∧ s.size ≤ maxLen := by
  obtain ⟨n, e, _, hs⟩ := DataW.trod_string Try.underlying9 h
  simp only [List.cons.injEq, and_true] at e
  exact ⟨n, e, hs⟩
theorem dot_cells {fuel : Nat} {cs : List Value} {x : DataW H × List MemPlace} (hl : cs.length = 2) (h : DataW.trod enc Try.prog W 0 (fun _ => true) true fuel 57 cs = some x) : ∃ d : cd.D, dotR W W.heap.size cs d ∧ True := by
  match cs, hl with
  | [c0, c1], _ =>
    obtain ⟨_, _, g0⟩ := part Try.underlying57 h 0 _ rfl
    obtain ⟨_, _, g1⟩ := part Try.underlying57 h 1 _ rfl
    simp [ci] at g0 g1
    obtain ⟨a, rfl⟩ := int_cell Try.underlying3 g0
    obtain ⟨b, rfl⟩ := int_cell Try.underlying3 g1
    exact ⟨(a, b), rfl, trivial⟩
theorem lnk_cells {fuel : Nat} {cs : List Value} {x : DataW H × List MemPlace} (hl : cs.length = 3) (h : DataW.trod enc Try.prog W 0 (fun _ => true) true fuel 95 cs = some x) : ∃ d : cd.Lk, lnkR W W.heap.size cs d ∧ True := by
  match cs, hl with
  | [c0, c1, c2], _ =>
    obtain ⟨_, _, g0⟩ := part Try.underlying95 h 0 _ rfl
    obtain ⟨_, _, g1⟩ := part Try.underlying95 h 1 _ rfl
    simp [ci, cdt] at g0 g1
    obtain ⟨a, rfl⟩ := int_cell Try.underlying3 g0
    obtain ⟨d, hd, _⟩ := dot_cells rfl g1
    simp only [dotR, List.cons.injEq, and_true] at hd
    obtain ⟨rfl, rfl⟩ := hd
    exact ⟨(a, d), rfl, trivial⟩
theorem dots_at {fuel : Nat} {v : Value} {x : DataW H × List MemPlace} (h : DataW.trod enc Try.prog W 0 (fun _ => true) true fuel 24 [v] = some x) : ∃ l : List cd.D, RowsAt 2 dotR W W.heap.size v l := by
  obtain ⟨l, hl, _⟩ := open_rows (R := dotR) (wf := fun _ => True) Try.underlying24 cdt (by decide) (fun f cs y hl h => dot_cells hl h) h
  exact ⟨l, hl⟩
theorem lnks_at {fuel : Nat} {v : Value} {x : DataW H × List MemPlace} (h : DataW.trod enc Try.prog W 0 (fun _ => true) true fuel 76 [v] = some x) : ∃ l : List cd.Lk, RowsAt 3 lnkR W W.heap.size v l := by
  obtain ⟨l, hl, _⟩ := open_rows (R := lnkR) (wf := fun _ => True) Try.underlying76 clk (by decide) (fun f cs y hl h => lnk_cells hl h) h
  exact ⟨l, hl⟩
theorem ent_cells {fuel : Nat} {cs : List Value} {x : DataW H × List MemPlace} (hl : cs.length = 5) (h : DataW.trod enc Try.prog W 0 (fun _ => true) true fuel 78 cs = some x) : ∃ d : cd.Ent, entR W W.heap.size cs d ∧ True := by
  match cs, hl with
  | [c0, c1, c2, c3, c4], _ =>
    obtain ⟨_, _, g0⟩ := part Try.underlying78 h 0 _ rfl
    obtain ⟨_, _, g1⟩ := part Try.underlying78 h 1 _ rfl
    obtain ⟨_, _, g2⟩ := part Try.underlying78 h 2 _ rfl
    obtain ⟨_, _, g3⟩ := part Try.underlying78 h 3 _ rfl
    simp [ci, cdt, cst, csl] at g0 g1 g2 g3
    obtain ⟨s, rfl, hs⟩ := str_cell g0
    obtain ⟨d, hd, _⟩ := dot_cells rfl g1
    simp only [dotR, List.cons.injEq, and_true] at hd
    obtain ⟨rfl, rfl⟩ := hd
    obtain ⟨t, rfl⟩ := int_cell Try.underlying3 g2
    obtain ⟨l, hl⟩ := lnks_at g3
    obtain ⟨ao, cap, rfl, _⟩ := hl.form
    exact ⟨⟨s, d, t, l⟩, ⟨_, _, _, rfl, hs, hl⟩, trivial⟩
theorem ents_at {fuel : Nat} {v : Value} {x : DataW H × List MemPlace} (h : DataW.trod enc Try.prog W 0 (fun _ => true) true fuel 23 [v] = some x) : ∃ l : List cd.Ent, RowsAt 5 entR W W.heap.size v l := by
  obtain ⟨l, hl, _⟩ := open_rows (R := entR) (wf := fun _ => True) Try.underlying23 cen (by decide) (fun f cs y hl h => ent_cells hl h) h
  exact ⟨l, hl⟩
theorem strs_at {fuel : Nat} {v : Value} {x : DataW H × List MemPlace} (h : DataW.trod enc Try.prog W 0 (fun _ => true) true fuel 31 [v] = some x) : ∃ l : List ByteArray, RowsAt 1 strR W W.heap.size v l := by
  obtain ⟨l, hl, _⟩ := open_rows (R := strR) (wf := fun _ => True) Try.underlying31 cst (by decide) (fun f cs y hl h => by
    match cs, hl with
    | [c0], _ =>
      obtain ⟨s, rfl, hs⟩ := str_cell h
      exact ⟨s, ⟨rfl, hs⟩, trivial⟩) h
  exact ⟨l, hl⟩
theorem cons_len {α : Type} {n : Nat} {l : List α} (h : l.length = n + 1) : ∃ a r, l = a :: r ∧ r.length = n := by
  cases l with
  | nil => simp at h
  | cons a r => exact ⟨a, r, rfl, by simpa using h⟩
set_option maxRecDepth 100000 in
theorem msg_cells {fuel : Nat} {cs : List Value} {x : DataW H × List MemPlace} (hl : cs.length = 16) (h : DataW.trod enc Try.prog W 0 (fun _ => true) true fuel 34 cs = some x) : ∃ m : cd.Msg, msgRel W W.heap.size cs m := by
  obtain ⟨c0, r0, rfl, hl0⟩ := cons_len hl
  obtain ⟨c1, r1, rfl, hl1⟩ := cons_len hl0
  obtain ⟨c2, r2, rfl, hl2⟩ := cons_len hl1
  obtain ⟨c3, r3, rfl, hl3⟩ := cons_len hl2
  obtain ⟨c4, r4, rfl, hl4⟩ := cons_len hl3
  obtain ⟨c5, r5, rfl, hl5⟩ := cons_len hl4
  obtain ⟨c6, r6, rfl, hl6⟩ := cons_len hl5
  obtain ⟨c7, r7, rfl, hl7⟩ := cons_len hl6
  obtain ⟨c8, r8, rfl, hl8⟩ := cons_len hl7
  obtain ⟨c9, r9, rfl, hl9⟩ := cons_len hl8
  obtain ⟨c10, r10, rfl, hl10⟩ := cons_len hl9
  obtain ⟨c11, r11, rfl, hl11⟩ := cons_len hl10
  obtain ⟨c12, r12, rfl, hl12⟩ := cons_len hl11
  obtain ⟨c13, r13, rfl, hl13⟩ := cons_len hl12
  obtain ⟨c14, r14, rfl, hl14⟩ := cons_len hl13
  obtain ⟨c15, r15, rfl, hl15⟩ := cons_len hl14
  obtain rfl := List.eq_nil_of_length_eq_zero hl15
  obtain ⟨_, _, g0⟩ := part Try.underlying34 h 0 _ rfl
  obtain ⟨_, _, g1⟩ := part Try.underlying34 h 1 _ rfl
  obtain ⟨_, _, g2⟩ := part Try.underlying34 h 2 _ rfl
  obtain ⟨_, _, g3⟩ := part Try.underlying34 h 3 _ rfl
  obtain ⟨_, _, g4⟩ := part Try.underlying34 h 4 _ rfl
  obtain ⟨_, _, g5⟩ := part Try.underlying34 h 5 _ rfl
  obtain ⟨_, _, g6⟩ := part Try.underlying34 h 6 _ rfl
  obtain ⟨_, _, g7⟩ := part Try.underlying34 h 7 _ rfl
  obtain ⟨_, _, g8⟩ := part Try.underlying34 h 8 _ rfl
  obtain ⟨_, _, g9⟩ := part Try.underlying34 h 9 _ rfl
  simp [ci, cdl, ccx, cmt, css, cer] at g0 g1 g2 g3 g4 g5 g6 g7 g8 g9
  obtain ⟨_, _, d0⟩ := part Try.underlying28 g5 0 _ rfl
  obtain ⟨_, _, d1⟩ := part Try.underlying28 g5 1 _ rfl
  obtain ⟨_, _, d2⟩ := part Try.underlying28 g5 2 _ rfl
  simp [cse, csd, ccx] at d0 d1 d2
  obtain ⟨_, _, e0⟩ := part Try.underlying26 d2 0 _ rfl
  obtain ⟨_, _, e1⟩ := part Try.underlying26 d2 1 _ rfl
  obtain ⟨_, _, f0⟩ := part Try.underlying26 g6 0 _ rfl
  obtain ⟨_, _, f1⟩ := part Try.underlying26 g6 1 _ rfl
  simp [csd] at e0 e1 f0 f1
  obtain ⟨_, _, m0⟩ := part Try.underlying30 g7 0 _ rfl
  obtain ⟨_, _, m1⟩ := part Try.underlying30 g7 1 _ rfl
  obtain ⟨_, _, m2⟩ := part Try.underlying30 g7 2 _ rfl
  simp [ci, cst] at m0 m1 m2
  obtain ⟨k, rfl⟩ := int_cell Try.underlying3 g0
  obtain ⟨f, rfl⟩ := int_cell Try.underlying3 g1
  obtain ⟨t, rfl⟩ := int_cell Try.underlying3 g2
  obtain ⟨g, rfl⟩ := int_cell Try.underlying3 g3
  obtain ⟨n, rfl⟩ := int_cell Try.underlying3 g4
  obtain ⟨e, he⟩ := ents_at d0
  obtain ⟨al, ha⟩ := dots_at d1
  obtain ⟨dv, h1⟩ := dots_at e0
  obtain ⟨dc, h2⟩ := dots_at e1
  obtain ⟨v, h3⟩ := dots_at f0
  obtain ⟨c, h4⟩ := dots_at f1
  obtain ⟨ki, rfl⟩ := int_cell Try.underlying3 m0
  obtain ⟨mn, rfl, hmn⟩ := str_cell m1
  obtain ⟨mv, rfl, hmv⟩ := str_cell m2
  obtain ⟨s, hs⟩ := strs_at g8
  obtain ⟨er, rfl⟩ := int_cell Try.underlying32 g9
  obtain ⟨_, _, rfl, _⟩ := he.form
  obtain ⟨_, _, rfl, _⟩ := ha.form
  obtain ⟨_, _, rfl, _⟩ := h1.form
  obtain ⟨_, _, rfl, _⟩ := h2.form
  obtain ⟨_, _, rfl, _⟩ := h3.form
  obtain ⟨_, _, rfl, _⟩ := h4.form
  obtain ⟨_, _, rfl, _⟩ := hs.form
  exact ⟨⟨k, f, t, g, n, e, al, dv, dc, v, c, ki, mn, mv, s, er⟩, _, _, _, _, _, _, _, _, _, _, _, _, _, _, _, _, _, _, _, _, _, rfl, he, ha, h1, h2, h3, h4, hmn, hmv, hs⟩
set_option maxRecDepth 100000 in
/-- a message argument -/
theorem open_msg {r : Reach} {b0 : Nat} {v : Value} {d : DataW H} {ps : List MemPlace} (hval : Value.okWide Try.prog W r b0 34 v) (hd : DataW.Trod enc Try.prog W 0 (fun _ => true) true 34 v d ps) : ∃ (c : List Value) (m : cd.Msg), v = .agg c.toArray ∧ msgRel W W.heap.size c m := by
  obtain ⟨cs, rfl, hsz⟩ := okWide_struct Try.underlying34 hval
  rw [cms] at hsz
  obtain ⟨fuel, hf⟩ := hd
  obtain ⟨m, hm⟩ := msg_cells (cs := cs.toList) (by rw [Array.length_toList]; exact hsz) hf
  exact ⟨cs.toList, m, by rw [Array.toArray_toList], hm⟩
theorem open_msgs {r : Reach} {b0 : Nat} {v : Value} {d : DataW H} {ps : List MemPlace} (hval : Value.okWide Try.prog W r b0 22 v) (hd : DataW.Trod enc Try.prog W 0 (fun _ => true) true 22 v d ps) : ∃ l : List cd.Msg, RowsAt 16 msgRel W W.heap.size v l := by
  obtain ⟨a0, len, cap, rfl⟩ := okWide_slice Try.underlying22 hval
  obtain ⟨fuel, hf⟩ := hd
  obtain ⟨l, hl, _⟩ := open_rows (R := msgRel) (wf := fun _ => True) Try.underlying22 cms (by decide) (fun f cs y hl h => by
    obtain ⟨m, hm⟩ := msg_cells hl h
    exact ⟨m, hm, trivial⟩) hf
  exact ⟨l, hl⟩
theorem cop : Try.prog.cellsOf 49 = 2 := by kernel_rfl
theorem op_cells {fuel : Nat} {cs : List Value} {x : DataW H × List MemPlace} (hl : cs.length = 2) (h : DataW.trod enc Try.prog W 0 (fun _ => true) true fuel 49 cs = some x) : ∃ d : cd.D, dotR W W.heap.size cs d ∧ True := by
  match cs, hl with
  | [c0, c1], _ =>
    obtain ⟨_, _, g0⟩ := part Try.underlying49 h 0 _ rfl
    obtain ⟨_, _, g1⟩ := part Try.underlying49 h 1 _ rfl
    simp [ci] at g0 g1
    obtain ⟨a, rfl⟩ := int_cell Try.underlying3 g0
    obtain ⟨b, rfl⟩ := int_cell Try.underlying3 g1
    exact ⟨(a, b), rfl, trivial⟩
theorem open_ops2 {r : Reach} {b0 : Nat} {v : Value} {d : DataW H} {ps : List MemPlace} (hval : Value.okWide Try.prog W r b0 46 v) (hd : DataW.Trod enc Try.prog W 0 (fun _ => true) true 46 v d ps) : ∃ l : List cd.D, RowsAt 2 dotR W W.heap.size v l := by
  obtain ⟨a0, len, cap, rfl⟩ := okWide_slice Try.underlying46 hval
  obtain ⟨fuel, hf⟩ := hd
  obtain ⟨l, hl, _⟩ := open_rows (R := dotR) (wf := fun _ => True) Try.underlying46 cop (by decide) (fun f cs y hl h => op_cells hl h) hf
  exact ⟨l, hl⟩
end
end Go.Proofs.Ytpgccfgldjeomaa
