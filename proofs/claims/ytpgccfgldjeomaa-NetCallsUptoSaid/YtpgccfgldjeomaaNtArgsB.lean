/- Messages as arguments, of small bulk. -/
import Derived.Test.YtpgccfgldjeomaaNtArgs
import Derived.Test.YtpgccfgldjeomaaBulk
namespace Go.Proofs.Ytpgccfgldjeomaa
open Go Go.RowKit Go.WideShapes Go.ChangeShapes cl
/-- no list, no text of a message is longer than N -/
def Small (N : Nat) (m : cd.Msg) : Prop := m.e.length ≤ N ∧ (∀ a ∈ m.e, a.s.size ≤ N ∧ a.l.length ≤ N) ∧ m.al.length ≤ N ∧ m.dv.length ≤ N ∧ m.dc.length ≤ N ∧ m.v.length ≤ N ∧ m.c.length ≤ N ∧ m.mn.size ≤ N ∧ m.mv.size ≤ N ∧ m.s.length ≤ N ∧ ∀ a ∈ m.s, a.size ≤ N
section
variable {H : Type} {enc : TypeId × Value → H} {W : World}
theorem str_cellB {fuel N : Nat} {v : Value} {x : DataW H × List MemPlace} (h : DataW.trod enc Try.prog W 0 (fun _ => true) true fuel 9 [v] = some x) (hN : Rows.uptoBulk x.1 ≤ N) : ∃ s, v = .string s ∧ s.size ≤ maxLen ∧ s.size ≤ N := str_bulk Try.underlying9 h hN
theorem dot_cellsB {fuel N : Nat} {cs : List Value} {x : DataW H × List MemPlace} (hl : cs.length = 2) (h : DataW.trod enc Try.prog W 0 (fun _ => true) true fuel 57 cs = some x) (hN : Rows.uptoBulk x.1 ≤ N) : ∃ d : cd.D, dotR W W.heap.size cs d ∧ True := by
  match cs, hl with
  | [c0, c1], _ =>
    obtain ⟨_, _, g0, ng0⟩ := partB Try.underlying57 h hN 0 _ rfl
    obtain ⟨_, _, g1, ng1⟩ := partB Try.underlying57 h hN 1 _ rfl
    simp [ci] at g0 g1
    obtain ⟨a, rfl⟩ := int_cell Try.underlying3 g0
    obtain ⟨b, rfl⟩ := int_cell Try.underlying3 g1
    exact ⟨(a, b), rfl, trivial⟩
theorem lnk_cellsB {fuel N : Nat} {cs : List Value} {x : DataW H × List MemPlace} (hl : cs.length = 3) (h : DataW.trod enc Try.prog W 0 (fun _ => true) true fuel 95 cs = some x) (hN : Rows.uptoBulk x.1 ≤ N) : ∃ d : cd.Lk, lnkR W W.heap.size cs d ∧ True := by
  match cs, hl with
  | [c0, c1, c2], _ =>
    obtain ⟨_, _, g0, ng0⟩ := partB Try.underlying95 h hN 0 _ rfl
    obtain ⟨_, _, g1, ng1⟩ := partB Try.underlying95 h hN 1 _ rfl
    simp [ci, cdt] at g0 g1
    obtain ⟨a, rfl⟩ := int_cell Try.underlying3 g0
    obtain ⟨d, hd, _⟩ := dot_cellsB rfl g1 ng1
    simp only [dotR, List.cons.injEq, and_true] at hd
    obtain ⟨rfl, rfl⟩ := hd
    exact ⟨(a, d), rfl, trivial⟩
theorem dots_atB {fuel N : Nat} {v : Value} {x : DataW H × List MemPlace} (h : DataW.trod enc Try.prog W 0 (fun _ => true) true fuel 24 [v] = some x) (hN : Rows.uptoBulk x.1 ≤ N) : ∃ l : List cd.D, RowsAt 2 dotR W W.heap.size v l ∧ l.length ≤ N := by
  obtain ⟨l, hl, _, hn⟩ := open_rowsB (R := dotR) (wf := fun _ => True) Try.underlying24 cdt (by decide) hN (fun f cs y hl h hN => dot_cellsB hl h hN) h
  exact ⟨l, hl, hn⟩
theorem lnks_atB {fuel N : Nat} {v : Value} {x : DataW H × List MemPlace} (h : DataW.trod enc Try.prog W 0 (fun _ => true) true fuel 76 [v] = some x) (hN : Rows.uptoBulk x.1 ≤ N) : ∃ l : List cd.Lk, RowsAt 3 lnkR W W.heap.size v l ∧ l.length ≤ N := by
  obtain ⟨l, hl, _, hn⟩ := open_rowsB (R := lnkR) (wf := fun _ => True) Try.underlying76 clk (by decide) hN (fun f cs y hl h hN => lnk_cellsB hl h hN) h
  exact ⟨l, hl, hn⟩
theorem ent_cellsB {fuel N : Nat} {cs : List Value} {x : DataW H × List MemPlace} (hl : cs.length = 5) (h : DataW.trod enc Try.prog W 0 (fun _ => true) true fuel 78 cs = some x) (hN : Rows.uptoBulk x.1 ≤ N) : ∃ d : cd.Ent, entR W W.heap.size cs d ∧ (d.s.size ≤ N ∧ d.l.length ≤ N) := by
  match cs, hl with
  | [c0, c1, c2, c3, c4], _ =>
    obtain ⟨_, _, g0, ng0⟩ := partB Try.underlying78 h hN 0 _ rfl
    obtain ⟨_, _, g1, ng1⟩ := partB Try.underlying78 h hN 1 _ rfl
    obtain ⟨_, _, g2, ng2⟩ := partB Try.underlying78 h hN 2 _ rfl
    obtain ⟨_, _, g3, ng3⟩ := partB Try.underlying78 h hN 3 _ rfl
    simp [ci, cdt, cst, csl] at g0 g1 g2 g3
    obtain ⟨s, rfl, hs, hs2⟩ := str_cellB g0 ng0
    obtain ⟨d, hd, _⟩ := dot_cellsB rfl g1 ng1
    simp only [dotR, List.cons.injEq, and_true] at hd
    obtain ⟨rfl, rfl⟩ := hd
    obtain ⟨t, rfl⟩ := int_cell Try.underlying3 g2
    obtain ⟨l, hl, hl2⟩ := lnks_atB g3 ng3
    obtain ⟨ao, cap, rfl, _⟩ := hl.form
    exact ⟨⟨s, d, t, l⟩, ⟨_, _, _, rfl, hs, hl⟩, hs2, hl2⟩
theorem ents_atB {fuel N : Nat} {v : Value} {x : DataW H × List MemPlace} (h : DataW.trod enc Try.prog W 0 (fun _ => true) true fuel 23 [v] = some x) (hN : Rows.uptoBulk x.1 ≤ N) : ∃ l : List cd.Ent, RowsAt 5 entR W W.heap.size v l ∧ l.length ≤ N ∧ ∀ a ∈ l, a.s.size ≤ N ∧ a.l.length ≤ N := by
  obtain ⟨l, hl, hw, hn⟩ := open_rowsB (R := entR) (wf := fun a => a.s.size ≤ N ∧ a.l.length ≤ N) Try.underlying23 cen (by decide) hN (fun f cs y hl h hN => ent_cellsB hl h hN) h
  exact ⟨l, hl, hn, hw⟩
theorem strs_atB {fuel N : Nat} {v : Value} {x : DataW H × List MemPlace} (h : DataW.trod enc Try.prog W 0 (fun _ => true) true fuel 31 [v] = some x) (hN : Rows.uptoBulk x.1 ≤ N) : ∃ l : List ByteArray, RowsAt 1 strR W W.heap.size v l ∧ l.length ≤ N ∧ ∀ a ∈ l, a.size ≤ N := by
  obtain ⟨l, hl, hw, hn⟩ := open_rowsB (R := strR) (wf := fun a => a.size ≤ N) Try.underlying31 cst (by decide) hN (fun f cs y hl h hN => by
    match cs, hl with
    | [c0], _ =>
      obtain ⟨s, rfl, hs, hs2⟩ := str_cellB h hN
      exact ⟨s, ⟨rfl, hs⟩, hs2⟩) h
  exact ⟨l, hl, hn, hw⟩
theorem cons_lenB {α : Type} {n : Nat} {l : List α} (h : l.length = n + 1) : ∃ a r, l = a :: r ∧ r.length = n := by
  cases l with
  | nil => simp at h
  | cons a r => exact ⟨a, r, rfl, by simpa using h⟩
set_option maxRecDepth 100000 in
theorem msg_cellsB {fuel N : Nat} {cs : List Value} {x : DataW H × List MemPlace} (hl : cs.length = 16) (h : DataW.trod enc Try.prog W 0 (fun _ => true) true fuel 34 cs = some x) (hN : Rows.uptoBulk x.1 ≤ N) : ∃ m : cd.Msg, msgRel W W.heap.size cs m ∧ Small N m := by
  obtain ⟨c0, r0, rfl, hl0⟩ := cons_lenB hl
  obtain ⟨c1, r1, rfl, hl1⟩ := cons_lenB hl0
  obtain ⟨c2, r2, rfl, hl2⟩ := cons_lenB hl1
  obtain ⟨c3, r3, rfl, hl3⟩ := cons_lenB hl2
  obtain ⟨c4, r4, rfl, hl4⟩ := cons_lenB hl3
  obtain ⟨c5, r5, rfl, hl5⟩ := cons_lenB hl4
  obtain ⟨c6, r6, rfl, hl6⟩ := cons_lenB hl5
  obtain ⟨c7, r7, rfl, hl7⟩ := cons_lenB hl6
  obtain ⟨c8, r8, rfl, hl8⟩ := cons_lenB hl7
  obtain ⟨c9, r9, rfl, hl9⟩ := cons_lenB hl8
  obtain ⟨c10, r10, rfl, hl10⟩ := cons_lenB hl9
  obtain ⟨c11, r11, rfl, hl11⟩ := cons_lenB hl10
  obtain ⟨c12, r12, rfl, hl12⟩ := cons_lenB hl11
  obtain ⟨c13, r13, rfl, hl13⟩ := cons_lenB hl12
  obtain ⟨c14, r14, rfl, hl14⟩ := cons_lenB hl13
  obtain ⟨c15, r15, rfl, hl15⟩ := cons_lenB hl14
  obtain rfl := List.eq_nil_of_length_eq_zero hl15
  obtain ⟨_, _, g0, ng0⟩ := partB Try.underlying34 h hN 0 _ rfl
  obtain ⟨_, _, g1, ng1⟩ := partB Try.underlying34 h hN 1 _ rfl
  obtain ⟨_, _, g2, ng2⟩ := partB Try.underlying34 h hN 2 _ rfl
  obtain ⟨_, _, g3, ng3⟩ := partB Try.underlying34 h hN 3 _ rfl
  obtain ⟨_, _, g4, ng4⟩ := partB Try.underlying34 h hN 4 _ rfl
  obtain ⟨_, _, g5, ng5⟩ := partB Try.underlying34 h hN 5 _ rfl
  obtain ⟨_, _, g6, ng6⟩ := partB Try.underlying34 h hN 6 _ rfl
  obtain ⟨_, _, g7, ng7⟩ := partB Try.underlying34 h hN 7 _ rfl
  obtain ⟨_, _, g8, ng8⟩ := partB Try.underlying34 h hN 8 _ rfl
  obtain ⟨_, _, g9, ng9⟩ := partB Try.underlying34 h hN 9 _ rfl
  simp [ci, cdl, ccx, cmt, css, cer] at g0 g1 g2 g3 g4 g5 g6 g7 g8 g9
  obtain ⟨_, _, d0, nd0⟩ := partB Try.underlying28 g5 ng5 0 _ rfl
  obtain ⟨_, _, d1, nd1⟩ := partB Try.underlying28 g5 ng5 1 _ rfl
  obtain ⟨_, _, d2, nd2⟩ := partB Try.underlying28 g5 ng5 2 _ rfl
  simp [cse, csd, ccx] at d0 d1 d2
  obtain ⟨_, _, e0, ne0⟩ := partB Try.underlying26 d2 nd2 0 _ rfl
  obtain ⟨_, _, e1, ne1⟩ := partB Try.underlying26 d2 nd2 1 _ rfl
  obtain ⟨_, _, f0, nf0⟩ := partB Try.underlying26 g6 ng6 0 _ rfl
  obtain ⟨_, _, f1, nf1⟩ := partB Try.underlying26 g6 ng6 1 _ rfl
  simp [csd] at e0 e1 f0 f1
  obtain ⟨_, _, m0, nm0⟩ := partB Try.underlying30 g7 ng7 0 _ rfl
  obtain ⟨_, _, m1, nm1⟩ := partB Try.underlying30 g7 ng7 1 _ rfl
  obtain ⟨_, _, m2, nm2⟩ := partB Try.underlying30 g7 ng7 2 _ rfl
  simp [ci, cst] at m0 m1 m2
  obtain ⟨k, rfl⟩ := int_cell Try.underlying3 g0
  obtain ⟨f, rfl⟩ := int_cell Try.underlying3 g1
  obtain ⟨t, rfl⟩ := int_cell Try.underlying3 g2
  obtain ⟨g, rfl⟩ := int_cell Try.underlying3 g3
  obtain ⟨n, rfl⟩ := int_cell Try.underlying3 g4
  obtain ⟨e, he, he2, he3⟩ := ents_atB d0 nd0
  obtain ⟨al, ha, ha2⟩ := dots_atB d1 nd1
  obtain ⟨dv, h1, h12⟩ := dots_atB e0 ne0
  obtain ⟨dc, h2, h22⟩ := dots_atB e1 ne1
  obtain ⟨v, h3, h32⟩ := dots_atB f0 nf0
  obtain ⟨c, h4, h42⟩ := dots_atB f1 nf1
  obtain ⟨ki, rfl⟩ := int_cell Try.underlying3 m0
  obtain ⟨mn, rfl, hmn, hmn2⟩ := str_cellB m1 nm1
  obtain ⟨mv, rfl, hmv, hmv2⟩ := str_cellB m2 nm2
  obtain ⟨s, hs, hs2, hs3⟩ := strs_atB g8 ng8
  obtain ⟨er, rfl⟩ := int_cell Try.underlying32 g9
  obtain ⟨_, _, rfl, _⟩ := he.form
  obtain ⟨_, _, rfl, _⟩ := ha.form
  obtain ⟨_, _, rfl, _⟩ := h1.form
  obtain ⟨_, _, rfl, _⟩ := h2.form
  obtain ⟨_, _, rfl, _⟩ := h3.form
  obtain ⟨_, _, rfl, _⟩ := h4.form
  obtain ⟨_, _, rfl, _⟩ := hs.form
  exact ⟨⟨k, f, t, g, n, e, al, dv, dc, v, c, ki, mn, mv, s, er⟩, ⟨_, _, _, _, _, _, _, _, _, _, _, _, _, _, _, _, _, _, _, _, _, rfl, he, ha, h1, h2, h3, h4, hmn, hmv, hs⟩, ⟨he2, he3, ha2, h12, h22, h32, h42, hmn2, hmv2, hs2, hs3⟩⟩
set_option maxRecDepth 100000 in
theorem open_msgB {r : Reach} {b0 N : Nat} {v : Value} {d : DataW H} {ps : List MemPlace} (hval : Value.okWide Try.prog W r b0 34 v) (hd : DataW.Trod enc Try.prog W 0 (fun _ => true) true 34 v d ps) (hN : Rows.uptoBulk d ≤ N) : ∃ (c : List Value) (m : cd.Msg), v = .agg c.toArray ∧ msgRel W W.heap.size c m ∧ Small N m := by
  obtain ⟨cs, rfl, hsz⟩ := okWide_struct Try.underlying34 hval
  rw [cms] at hsz
  obtain ⟨fuel, hf⟩ := hd
  obtain ⟨m, hm, hs⟩ := msg_cellsB (cs := cs.toList) (by rw [Array.length_toList]; exact hsz) hf hN
  exact ⟨cs.toList, m, by rw [Array.toArray_toList], hm, hs⟩
theorem open_msgsB {r : Reach} {b0 N : Nat} {v : Value} {d : DataW H} {ps : List MemPlace} (hval : Value.okWide Try.prog W r b0 22 v) (hd : DataW.Trod enc Try.prog W 0 (fun _ => true) true 22 v d ps) (hN : Rows.uptoBulk d ≤ N) : ∃ l : List cd.Msg, RowsAt 16 msgRel W W.heap.size v l ∧ (∀ m ∈ l, Small N m) ∧ l.length ≤ N := by
  obtain ⟨a0, len, cap, rfl⟩ := okWide_slice Try.underlying22 hval
  obtain ⟨fuel, hf⟩ := hd
  obtain ⟨l, hl, hw, hn⟩ := open_rowsB (R := msgRel) (wf := Small N) Try.underlying22 cms (by decide) hN (fun f cs y hl h hN => msg_cellsB hl h hN) hf
  exact ⟨l, hl, hw, hn⟩
end
end Go.Proofs.Ytpgccfgldjeomaa
