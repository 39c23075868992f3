/- codec.Read by its contract. -/
import Derived.Test.YtghbkieflifegaaCdRe
import Derived.Test.YtghbkieflifegaaCdWrite
namespace Go.Proofs.Ytghbkieflifegaa
open Go.RowKit Go.ChangeShapes cl
set_option maxRecDepth 100000 in
theorem reason_n (n : Int) (w : World) : Calls Try.prog 17 #[.iface 93 (.agg #[.int .i64 n])] w fun e w' => e = .returned (.int .i64 n) ∧ Below w.heap.size w w' := by
  have hta := run_refusal
  go_enter Try.func17, Try.ntmps17
  go_wp2
  go_ret
  exact ⟨rfl, below1⟩
abbrev zeroC : Array Value := #[.int .i64 0, .int .i64 0, .int .i64 0, .int .i64 0, .int .i64 0, .slice none 0 0, .slice none 0 0, .slice none 0 0, .slice none 0 0, .slice none 0 0, .slice none 0 0, .int .i64 0, .string ⟨#[]⟩, .string ⟨#[]⟩, .slice none 0 0, .int .i64 0]
/-- cells stored one behind the other -/
def wset : World → Nat → Nat → List Value → World
  | w, _, _, [] => w
  | w, q, i, u :: us => wset (w.setCell ⟨q, i, none⟩ u) q (i + 1) us
def cset : Array Value → Nat → List Value → Array Value
  | cs, _, [] => cs
  | cs, i, u :: us => cset (cs.setIfInBounds i u) (i + 1) us
theorem cset_list : ∀ (us : List Value) (cs : Array Value) (i : Nat), i + us.length = cs.size → (cset cs i us).toList = cs.toList.take i ++ us := by
  intro us
  induction us with
  | nil =>
    intro cs i h
    show cs.toList = _
    rw [List.append_nil, List.take_of_length_le (by simp at h ⊢; omega)]
  | cons u us ih =>
    intro cs i h
    have hi : i < cs.toList.length := by simp only [List.length_cons] at h; rw [Array.length_toList]; omega
    show (cset (cs.setIfInBounds i u) (i + 1) us).toList = _
    rw [ih _ _ (by rw [Array.size_setIfInBounds]; simp only [List.length_cons] at h; omega), Array.toList_setIfInBounds]
    rw [List.take_succ_eq_append_getElem (by rw [List.length_set]; exact hi), List.take_set_of_le (Nat.le_refl _), List.getElem_set_self, List.append_assoc]
    rfl
theorem wset_heap : ∀ (us : List Value) (w : World) (q i : Nat) (cs : Array Value) (T : TypeId), w.heap[q]? = some (.cells cs T (0, 0)) → (wset w q i us).heap[q]? = some (.cells (cset cs i us) T (0, 0)) := by
  intro us
  induction us with
  | nil => intro w q i cs T h; exact h
  | cons u us ih => intro w q i cs T h; exact ih _ q (i + 1) _ T (heap_setCell_same w q i _ _ _ h)
theorem wset_other : ∀ (us : List Value) (w : World) (q i k : Nat), k ≠ q → (wset w q i us).heap[k]? = w.heap[k]? := by
  intro us
  induction us with
  | nil => intro w q i k _; rfl
  | cons u us ih => intro w q i k hk; exact (ih _ q (i + 1) k hk).trans (Below.heap_setCell _ _ _ _ hk)
theorem wset_below : ∀ (us : List Value) (w w0 : World) (q i B : Nat), B ≤ q → Below B w0 w → Below B w0 (wset w q i us) := by
  intro us
  induction us with
  | nil => intro w w0 q i B _ h; exact h
  | cons u us ih => intro w w0 q i B hB h; exact ih _ w0 q (i + 1) B hB (h.setCell hB u)
theorem wset_row {w : World} {q : Nat} {cs : Array Value} {T : TypeId} (us : List Value) (h : w.heap[q]? = some (.cells cs T (0, 0))) (hl : us.length = cs.size) : (wset w q 0 us).heap[q]? = some (.cells us.toArray T (0, 0)) := by
  rw [wset_heap us w q 0 cs T h]
  have := cset_list us cs 0 (by omega)
  have e : cset cs 0 us = us.toArray := by
    apply Array.ext'
    simpa using this
  rw [e]

set_option maxHeartbeats 1600000 in
set_option maxRecDepth 100000 in
theorem rcaught (q q1 : Nat) (n : Int) (cs : Array Value) (y : Int) (w : World) (h : w.heap[q]? = some (.cells cs 33 (0, 0))) (h1 : w.heap[q1]? = some (.cells #[.int .i64 y] 31 (0, 0))) (hne : q ≠ q1) (hs : cs.size = 16) :
    CallsD Try.prog 28 #[.pointer (some ⟨q, 0, none⟩), .pointer (some ⟨q1, 0, none⟩)] (.panicking [{ v := .iface 93 (.agg #[.int .i64 n]), recovered := false }]) w fun e u' w' =>
      e = .returned (.tuple #[]) ∧ u' = .panicking [{ v := .iface 93 (.agg #[.int .i64 n]), recovered := true }] ∧ w'.heap[q]? = some (.cells zeroC 33 (0, 0)) ∧ w'.heap[q1]? = some (.cells #[.int .i64 n] 31 (0, 0)) ∧ (∀ B, B ≤ q → B ≤ q1 → B ≤ w.heap.size → Below B w w') := by
  have HR : Hid (∀ W : World, Calls Try.prog 17 #[.iface 93 (.agg #[.int .i64 n])] W fun e w' => e = .returned (.int .i64 n) ∧ Below W.heap.size W w') := reason_n n
  refine callsD_of_wpS Try.func28 rfl fun c₀ cs' hu => ?_
  apply wpS_seq
  apply wpS_region
  simp [wpOpsS, go_sem, recoverD, hu, Try.ntmps28, Exit.thenS]
  refine wpS_of_wp ?_
  go_wp2_with fail
  (with_reducible refine (HR.out _).mono ?_)
  rintro e w1 ⟨rfl, b1⟩
  have x0 := (b1.block _ (lt_of_block h)).trans h
  have x1 := (b1.block _ (lt_of_block h1)).trans h1
  match cs, hs with
  | ⟨[z0, z1, z2, z3, z4, z5, z6, z7, z8, z9, z10, z11, z12, z13, z14, z15]⟩, _ =>
    have c0 := boxc x0 0 _ rfl
    have f0 := boxf x0 0
    have c1 := boxc x0 1 _ rfl
    have f1 := boxf x0 1
    have c2 := boxc x0 2 _ rfl
    have f2 := boxf x0 2
    have c3 := boxc x0 3 _ rfl
    have f3 := boxf x0 3
    have c4 := boxc x0 4 _ rfl
    have f4 := boxf x0 4
    have c5 := boxc x0 5 _ rfl
    have f5 := boxf x0 5
    have c6 := boxc x0 6 _ rfl
    have f6 := boxf x0 6
    have c7 := boxc x0 7 _ rfl
    have f7 := boxf x0 7
    have c8 := boxc x0 8 _ rfl
    have f8 := boxf x0 8
    have c9 := boxc x0 9 _ rfl
    have f9 := boxf x0 9
    have c10 := boxc x0 10 _ rfl
    have f10 := boxf x0 10
    have c11 := boxc x0 11 _ rfl
    have f11 := boxf x0 11
    have c12 := boxc x0 12 _ rfl
    have f12 := boxf x0 12
    have c13 := boxc x0 13 _ rfl
    have f13 := boxf x0 13
    have c14 := boxc x0 14 _ rfl
    have f14 := boxf x0 14
    have c15 := boxc x0 15 _ rfl
    have f15 := boxf x0 15
    have d0 := boxc x1 0 _ rfl
    have g0 := boxf x1 0
    have X0 := Lib.hid x0
    have X1 := Lib.hid x1
    have B1 := Lib.hid b1
    have HH := Lib.hid h
    have HH1 := Lib.hid h1
    clear h h1 x0 x1 b1
    go_wp2
    simp [bodyPostS, results, Try.results28, go_sem]
    refine ⟨?_, ?_, ?_⟩
    · exact (wset_other [.int .i64 n] (wset w1 q 0 zeroC.toList) q1 0 q hne).trans (wset_row zeroC.toList X0.out rfl)
    · exact wset_row [.int .i64 n] ((wset_other zeroC.toList w1 q 0 q1 hne.symm).trans X1.out) rfl
    · intro B hB hB1 hBw
      exact wset_below [.int .i64 n] _ w q1 0 B hB1 (wset_below zeroC.toList _ w q 0 B hB (B1.out.mono hBw))
theorem ridle (p q : Addr) (w : World) :
    CallsD Try.prog 28 #[.pointer (some p), .pointer (some q)] .returning w fun e u' w' => e = .returned (.tuple #[]) ∧ u' = .returning ∧ w' = w := by
  refine callsD_of_wpS Try.func28 rfl fun c₀ cs hu => ?_
  apply wpS_seq
  apply wpS_region
  simp [wpOpsS, go_sem, recoverD, hu, Try.ntmps28, Exit.thenS]
  refine wpS_of_wp ?_
  go_wp2
  cases c₀
  simp_all [bodyPostS, results, Try.results28]
theorem wset_kt : ∀ (us : List Value) (w : World) (q i : Nat) (cs : Array Value) (T : TypeId), w.heap[q]? = some (.cells cs T (0, 0)) → Kt T w (wset w q i us) := by
  intro us
  induction us with
  | nil => intro w q i cs T _; exact ⟨Nat.le_refl _, fun _ _ _ => rfl⟩
  | cons u us ih => intro w q i cs T h; exact (Kt.set h i u).trans (ih _ q (i + 1) _ T (heap_setCell_same w q i _ _ _ h))
set_option maxHeartbeats 1600000 in
set_option maxRecDepth 100000 in
theorem read_leaves {q q1 : Nat} {tm : Array Value} {R : Ending → World → Prop} {cs : Array Value} {k : Int} {W : World} (t2 : tm[2]? = some (.pointer (some ⟨q, 0, none⟩))) (t3 : tm[3]? = some (.pointer (some ⟨q1, 0, none⟩)))
    (h : W.heap[q]? = some (.cells cs 33 (0, 0))) (h1 : W.heap[q1]? = some (.cells #[.int .i64 k] 31 (0, 0))) (hs : cs.size = 16) (hR : R (.returned (.tuple #[.agg cs, .int .i64 k])) W) :
    Leaves Try.prog Try.f12 tm R [] .returning W := by
  match cs, hs with
  | ⟨[z0, z1, z2, z3, z4, z5, z6, z7, z8, z9, z10, z11, z12, z13, z14, z15]⟩, _ =>
    have c0 := boxc h 0 _ rfl
    have c1 := boxc h 1 _ rfl
    have c2 := boxc h 2 _ rfl
    have c3 := boxc h 3 _ rfl
    have c4 := boxc h 4 _ rfl
    have c5 := boxc h 5 _ rfl
    have c6 := boxc h 6 _ rfl
    have c7 := boxc h 7 _ rfl
    have c8 := boxc h 8 _ rfl
    have c9 := boxc h 9 _ rfl
    have c10 := boxc h 10 _ rfl
    have c11 := boxc h 11 _ rfl
    have c12 := boxc h 12 _ rfl
    have c13 := boxc h 13 _ rfl
    have c14 := boxc h 14 _ rfl
    have c15 := boxc h 15 _ rfl
    have d0 := boxc h1 0 _ rfl
    simp [Leaves, results, Try.results12, go_sem, d0, t2, t3, c0, c1, c2, c3, c4, c5, c6, c7, c8, c9, c10, c11, c12, c13, c14, c15]
    exact hR
/-- a message of the call's own, in its cells -/
def MsgO (w : World) (c : List Value) (m : cd.Msg) : Prop := ∃ oe me ke oa ma ka ov mv kv oc mc kc pv nv lv pc nc lc os ms ks,
  c = [.int .i64 m.k, .int .i64 m.f, .int .i64 m.to, .int .i64 m.g, .int .i64 m.n, .slice oe me ke, .slice oa ma ka, .slice ov mv kv, .slice oc mc kc, .slice pv nv lv, .slice pc nc lc, .int .i64 m.ki, .string m.mn, .string m.mv, .slice os ms ks, .int .i64 m.er] ∧
  RowsO 0 50 5 entO w (.slice oe me ke) m.e ∧ RowsO 0 47 2 dotO w (.slice oa ma ka) m.al ∧ RowsO 0 47 2 dotO w (.slice ov mv kv) m.dv ∧ RowsO 0 47 2 dotO w (.slice oc mc kc) m.dc ∧
  RowsO 0 47 2 dotO w (.slice pv nv lv) m.v ∧ RowsO 0 47 2 dotO w (.slice pc nc lc) m.c ∧ m.mn.size ≤ 4000 ∧ m.mv.size ≤ 4000 ∧ RowsO 0 9 1 strO w (.slice os ms ks) m.s
/-- what Read answers -/
def ReadAns (r : Except Nat cd.Msg) (w : World) (e : Ending) (w' : World) : Prop := Below w.heap.size w w' ∧
  ((∃ m c, r = .ok m ∧ e = .returned (.tuple #[.agg (List.toArray c), .int .i64 0]) ∧ MsgO w' c m) ∨ (∃ k : Nat, r = .error k ∧ 1 ≤ k ∧ e = .returned (.tuple #[.agg zeroC, .int .i64 (k : Int)])))
theorem read_err {L : List Nat} {c : Nat} (h : cd.msgR L 0 = .error c) : cd.read L = .error c := by unfold cd.read; rw [h]
theorem read_more {L : List Nat} {m : cd.Msg} {a : Nat} (h : cd.msgR L 0 = .ok (m, a)) (ha : a < L.length) : cd.read L = .error 3 := by unfold cd.read; rw [h]; exact if_pos ha
theorem read_ok {L : List Nat} {m : cd.Msg} {a : Nat} (h : cd.msgR L 0 = .ok (m, a)) (ha : ¬ a < L.length) : cd.read L = .ok m := by unfold cd.read; rw [h]; exact if_neg ha
theorem grown_old {w W : World} {p : Nat} (h : w.grownBy W (some p)) (hp : w.heap.size ≤ p) : Below w.heap.size w W := ⟨h.os, h.tape, h.output, h.size, fun k hk => h.block k hk (fun e => by cases e; omega)⟩
theorem Bx.failed {w : World} {p : Nat} {s : ByteArray} {a q0 : Nat} {T0 : TypeId} {cs0 : Array Value} {q1 : Nat} {T1 : TypeId} {cs1 : Array Value} {W W' : World} (h : Bx w p s a q0 T0 cs0 q1 T1 cs1 W) (hg : W.grownBy W' (some p)) :
    w.grownBy W' (some p) ∧ W'.heap[q0]? = some (.cells cs0 T0 (0, 0)) ∧ W'.heap[q1]? = some (.cells cs1 T1 (0, 0)) :=
  ⟨grown_trans h.g hg, (hg.block q0 (lt_of_block h.x0) (fun e => h.n0 (Option.some.inj e))).trans h.x0, (hg.block q1 (lt_of_block h.x1) (fun e => h.n1 (Option.some.inj e))).trans h.x1⟩
theorem Bx.start3 (w : World) (s : ByteArray) (o0 o1 : Obj) : let W := ((w.alloc o0).alloc o1).alloc (.cells #[.string s, .int .i64 0] 69)
    Rd (w.heap.size + 1 + 1) s 0 W ∧ w.grownBy W (some (w.heap.size + 1 + 1)) ∧ W.heap[w.heap.size + 1]? = some o1 ∧ W.heap[w.heap.size]? = some o0 := by
  have b1 : Below w.heap.size w (w.alloc o0) := below1
  have b2 : Below (w.alloc o0).heap.size (w.alloc o0) ((w.alloc o0).alloc o1) := below1
  have b3 : Below ((w.alloc o0).alloc o1).heap.size ((w.alloc o0).alloc o1) (((w.alloc o0).alloc o1).alloc (.cells #[.string s, .int .i64 0] 69)) := below1
  have z1 : (w.alloc o0).heap.size = w.heap.size + 1 := by simp
  have z2 : ((w.alloc o0).alloc o1).heap.size = w.heap.size + 1 + 1 := by simp
  have e0 := heap_alloc_new w o0
  have e1 := heap_alloc_new (w.alloc o0) o1
  have e2 := heap_alloc_new ((w.alloc o0).alloc o1) (.cells #[.string s, .int .i64 0] 69)
  rw [z1] at e1
  rw [z2] at e2
  exact ⟨e2, grown_below' (b1.trans ((b2.trans (b3.mono (by omega))).mono (by omega))), (b3.block _ (by omega)).trans e1, (b3.block _ (by omega)).trans ((b2.block _ (by omega)).trans e0)⟩
end Go.Proofs.Ytghbkieflifegaa
