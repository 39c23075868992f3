/- net.Take. -/
import Derived.Test.YtpgccfgldjeomaaNtSend
namespace Go.Proofs.Ytpgccfgldjeomaa
open Go.RowKit Go.ChangeShapes cl
theorem there_yes (ao : Option Addr) (n cap k : Nat) (w : World) (h : k < n) : Calls Try.prog 28 #[.slice ao n cap, .int .i64 (k : Int)] w fun e w' => e = .returned (.bool true) ∧ w' = w := by
  have h1 : (k : Int) < (n : Int) := by omega
  have h0 : (0 : Int) ≤ (k : Int) := by omega
  go_enter Try.func28, Try.ntmps28
  go_wp2
  go_ret
  exact ⟨rfl, rfl⟩
theorem there_no (ao : Option Addr) (n cap : Nat) (i : Int) (w : World) (h : ¬ (0 ≤ i ∧ i < (n : Int))) : Calls Try.prog 28 #[.slice ao n cap, .int .i64 i] w fun e w' => e = .returned (.bool false) ∧ w' = w := by
  by_cases h0 : 0 ≤ i
  · have h1 : ¬ i < (n : Int) := fun e => h ⟨h0, e⟩
    clear h
    go_enter Try.func28, Try.ntmps28
    go_wp2
    go_ret
    exact ⟨rfl, rfl⟩
  · clear h
    go_enter Try.func28, Try.ntmps28
    go_wp2
    go_ret
    exact ⟨rfl, rfl⟩
theorem flat_take {k : Nat} : ∀ (cs : List (List Value)), (∀ c ∈ cs, c.length = k) → ∀ i, (cs.take i).flatten = cs.flatten.take (i * k) := by
  intro cs
  induction cs with
  | nil => intro _ i; simp
  | cons c cs ih =>
    intro h i
    cases i with
    | zero => simp
    | succ i =>
      have hc := h c List.mem_cons_self
      rw [List.take_succ_cons, List.flatten_cons, List.flatten_cons, ih (fun x hx => h x (List.mem_cons_of_mem _ hx)) i, List.take_append, hc, Nat.succ_mul, Nat.add_sub_cancel]
      congr 1
      exact (List.take_of_length_le (by rw [hc]; omega)).symm
theorem flat_drop {k : Nat} : ∀ (cs : List (List Value)), (∀ c ∈ cs, c.length = k) → ∀ i, (cs.drop i).flatten = cs.flatten.drop (i * k) := by
  intro cs
  induction cs with
  | nil => intro _ i; simp
  | cons c cs ih =>
    intro h i
    cases i with
    | zero => simp
    | succ i =>
      have hc := h c List.mem_cons_self
      rw [List.drop_succ_cons, List.flatten_cons, ih (fun x hx => h x (List.mem_cons_of_mem _ hx)) i, List.drop_append, hc, Nat.succ_mul, Nat.add_sub_cancel]
      rw [show List.drop (i * k + k) c = [] from List.drop_eq_nil_of_le (by rw [hc]; omega), List.nil_append]
instance : Inhabited cd.Msg := ⟨⟨0, 0, 0, 0, 0, [], [], [], [], [], [], 0, ⟨#[]⟩, ⟨#[]⟩, [], 0⟩⟩
/-- what Take answers -/
def TakeP (L : List cd.Msg) (i : Int) (v : Value) (w : World) (e : Ending) (w' : World) : Prop := Below w.heap.size w w' ∧
  ((¬ (0 ≤ i ∧ i < (L.length : Int)) ∧ e = .returned (.tuple #[v, .agg #[.int .i64 0, .int .i64 0, .int .i64 0, .int .i64 0, .int .i64 0, .slice none 0 0, .slice none 0 0, .slice none 0 0, .slice none 0 0, .slice none 0 0, .slice none 0 0, .int .i64 0, .string ⟨#[]⟩, .string ⟨#[]⟩, .slice none 0 0, .int .i64 0], .int .i64 5])) ∨
   (∃ k : Nat, i = (k : Int) ∧ k < L.length ∧ ∃ ao n cap c', e = .returned (.tuple #[.slice ao n cap, .agg (List.toArray c'), .int .i64 0]) ∧ n = L.length - 1 ∧ RowsAt 16 msgRel w' w'.heap.size (.slice ao n cap) (L.take k ++ L.drop (k + 1)) ∧ msgRel w' w'.heap.size c' (L.getD k default)))
theorem cut_rows {α : Type} {P : List Value → α → Prop} {cs : List (List Value)} {L : List α} (h1 : ∀ (j : Nat) (c : List Value) (x : α), cs[j]? = some c → L[j]? = some x → P c x) (k : Nat) :
    ∀ (j : Nat) (c : List Value) (x : α), (cs.take k ++ cs.drop (k + 1))[j]? = some c → (L.take k ++ L.drop (k + 1))[j]? = some x → P c x := by
  intro j c x hc hx
  rw [← List.eraseIdx_eq_take_drop_succ] at hc hx
  rw [List.getElem?_eraseIdx] at hc hx
  split at hc
  · rename_i hj
    rw [if_pos hj] at hx
    exact h1 _ _ _ hc hx
  · rename_i hj
    rw [if_neg hj] at hx
    exact h1 _ _ _ hc hx

set_option maxHeartbeats 6400000 in
set_option maxRecDepth 100000 in
theorem take_no (L : List cd.Msg) (v : Value) (i : Int) (w : World) (hL : RowsAt 16 msgRel w w.heap.size v L) (hi : ¬ (0 ≤ i ∧ i < (L.length : Int))) :
    Calls Try.prog 11 #[v, .int .i64 i] w (TakeP L i v w) := by
  obtain ⟨n, hn⟩ : ∃ n, n = L.length := ⟨_, rfl⟩
  obtain ⟨ao, cap, rfl, hnc, hnm⟩ := hL.form' hn
  have HI := Lib.hid hi
  rw [← hn] at hi
  unfold maxLen at hnm
  obtain ⟨W1, hW1⟩ : ∃ W, W = w.alloc (.cells #[.int .i64 0, .int .i64 0, .int .i64 0, .int .i64 0, .int .i64 0, .slice none 0 0, .slice none 0 0, .slice none 0 0, .slice none 0 0, .slice none 0 0, .slice none 0 0, .int .i64 0, .string ⟨#[]⟩, .string ⟨#[]⟩, .slice none 0 0, .int .i64 0] 34) := ⟨_, rfl⟩
  have hb1 : Below w.heap.size w W1 := by rw [hW1]; exact below1
  have y1 : W1.heap[w.heap.size]? = some (.cells #[.int .i64 0, .int .i64 0, .int .i64 0, .int .i64 0, .int .i64 0, .slice none 0 0, .slice none 0 0, .slice none 0 0, .slice none 0 0, .slice none 0 0, .slice none 0 0, .int .i64 0, .string ⟨#[]⟩, .string ⟨#[]⟩, .slice none 0 0, .int .i64 0] 34) := by rw [hW1]; exact heap_alloc_new w _
  have HT := Lib.hid (there_no ao n cap i W1 hi)
  have HB1 := Lib.hid hb1
  have Y1 := Lib.hid y1
  clear hn hL hi hb1 y1
  go_enter Try.func11, Try.ntmps11
  go_wp2_with fail
  rw [← hW1]
  clear hW1
  (with_reducible refine HT.out.mono ?_)
  rintro e w2 ⟨rfl, rfl⟩
  obtain ⟨b0, hb0⟩ : ∃ b, b = w.heap.size := ⟨_, rfl⟩
  have HW : Hid (b0 = w.heap.size) := hb0
  have y1 := Y1.out
  rw [← hb0] at y1 ⊢
  have f0 := boxf y1 0
  have q0 := boxc y1 0 _ rfl
  have f1 := boxf y1 1
  have q1 := boxc y1 1 _ rfl
  have f2 := boxf y1 2
  have q2 := boxc y1 2 _ rfl
  have f3 := boxf y1 3
  have q3 := boxc y1 3 _ rfl
  have f4 := boxf y1 4
  have q4 := boxc y1 4 _ rfl
  have f5 := boxf y1 5
  have q5 := boxc y1 5 _ rfl
  have f6 := boxf y1 6
  have q6 := boxc y1 6 _ rfl
  have f7 := boxf y1 7
  have q7 := boxc y1 7 _ rfl
  have f8 := boxf y1 8
  have q8 := boxc y1 8 _ rfl
  have f9 := boxf y1 9
  have q9 := boxc y1 9 _ rfl
  have f10 := boxf y1 10
  have q10 := boxc y1 10 _ rfl
  have f11 := boxf y1 11
  have q11 := boxc y1 11 _ rfl
  have f12 := boxf y1 12
  have q12 := boxc y1 12 _ rfl
  have f13 := boxf y1 13
  have q13 := boxc y1 13 _ rfl
  have f14 := boxf y1 14
  have q14 := boxc y1 14 _ rfl
  have f15 := boxf y1 15
  have q15 := boxc y1 15 _ rfl
  have YY := Lib.hid y1
  clear y1 hb0 HT Y1
  go_wp2
  obtain ⟨w9, h9⟩ : ∃ W, W = wset w2 b0 0 [.int .i64 0, .int .i64 0, .int .i64 0, .int .i64 0, .int .i64 0, .slice none 0 0, .slice none 0 0, .slice none 0 0, .slice none 0 0, .slice none 0 0, .slice none 0 0, .int .i64 0, .string ⟨#[]⟩, .string ⟨#[]⟩, .slice none 0 0, .int .i64 0] := ⟨_, rfl⟩
  have c := wset_row [.int .i64 0, .int .i64 0, .int .i64 0, .int .i64 0, .int .i64 0, .slice none 0 0, .slice none 0 0, .slice none 0 0, .slice none 0 0, .slice none 0 0, .slice none 0 0, .int .i64 0, .string ⟨#[]⟩, .string ⟨#[]⟩, .slice none 0 0, .int .i64 0] YY.out rfl
  have bb := wset_below [.int .i64 0, .int .i64 0, .int .i64 0, .int .i64 0, .int .i64 0, .slice none 0 0, .slice none 0 0, .slice none 0 0, .slice none 0 0, .slice none 0 0, .slice none 0 0, .int .i64 0, .string ⟨#[]⟩, .string ⟨#[]⟩, .slice none 0 0, .int .i64 0] w2 w b0 0 w.heap.size (by have := HW.out; omega) HB1.out
  rw [← h9] at c bb
  simp only [wset, Nat.reduceAdd] at h9
  rw [← h9]
  clear h9
  have c20 := boxc c 0 (.int .i64 0) rfl
  have c21 := boxc c 1 (.int .i64 0) rfl
  have c22 := boxc c 2 (.int .i64 0) rfl
  have c23 := boxc c 3 (.int .i64 0) rfl
  have c24 := boxc c 4 (.int .i64 0) rfl
  have c25 := boxc c 5 (.slice none 0 0) rfl
  have c26 := boxc c 6 (.slice none 0 0) rfl
  have c27 := boxc c 7 (.slice none 0 0) rfl
  have c28 := boxc c 8 (.slice none 0 0) rfl
  have c29 := boxc c 9 (.slice none 0 0) rfl
  have c30 := boxc c 10 (.slice none 0 0) rfl
  have c31 := boxc c 11 (.int .i64 0) rfl
  have c32 := boxc c 12 (.string ⟨#[]⟩) rfl
  have c33 := boxc c 13 (.string ⟨#[]⟩) rfl
  have c34 := boxc c 14 (.slice none 0 0) rfl
  have c35 := boxc c 15 (.int .i64 0) rfl
  exact bodyPost_ret (v := .tuple #[.slice ao n cap, .agg #[.int .i64 0, .int .i64 0, .int .i64 0, .int .i64 0, .int .i64 0, .slice none 0 0, .slice none 0 0, .slice none 0 0, .slice none 0 0, .slice none 0 0, .slice none 0 0, .int .i64 0, .string ⟨#[]⟩, .string ⟨#[]⟩, .slice none 0 0, .int .i64 0], .int .i64 5]) (by simp [results, Try.results11, go_sem, c20, c21, c22, c23, c24, c25, c26, c27, c28, c29, c30, c31, c32, c33, c34, c35]) rfl ⟨bb, Or.inl ⟨HI.out, rfl⟩⟩
end Go.Proofs.Ytpgccfgldjeomaa
