/- codec.Write by its contract: the message's bytes, or ErrArg. -/
import Derived.Test.YtpgccfgldjeomaaCdSeq
import Derived.Defers
import Derived.Recover
import Derived.Laws.Pointers
namespace Go.Proofs.Ytpgccfgldjeomaa
open Go.RowKit Go.ChangeShapes cl

theorem run_refusal (v : Value) (x : TypeId) (w : World) : (Instr.typeAssert (.iface 80 v) x 80 true).run Try.prog w = .ok (.tuple #[v, .bool true]) w := by
  simp [Instr.typeAssert, go_sem]
set_option maxRecDepth 100000 in
theorem reason_1 (w : World) : Calls Try.prog 30 #[.iface 80 (.agg #[.int .i64 1])] w fun e w' => e = .returned (.int .i64 1) ∧ Below w.heap.size w w' := by
  have hta := run_refusal
  go_enter Try.func30, Try.ntmps30
  go_wp2
  go_ret
  exact ⟨rfl, below1⟩

set_option maxRecDepth 100000 in
theorem caught (p q : Addr) (x : ByteArray) (y : Int) (w : World) (hc : w.cell? p = some (.string x)) (hz : w.frozen? p = false) (hd : w.cell? q = some (.int .i64 y)) (hy : w.frozen? q = false) (hp : p.block < w.heap.size) (hq : q.block < w.heap.size) (hne : p ≠ q) :
    CallsD Try.prog 29 #[.pointer (some p), .pointer (some q)] (.panicking [{ v := .iface 80 (.agg #[.int .i64 1]), recovered := false }]) w fun e u' w' =>
      e = .returned (.tuple #[]) ∧ u' = .panicking [{ v := .iface 80 (.agg #[.int .i64 1]), recovered := true }] ∧ ∃ w1, Below w.heap.size w w1 ∧ w' = (w1.setCell p (.string ⟨#[]⟩)).setCell q (.int .i64 1) := by
  have HR : Hid (∀ W : World, Calls Try.prog 30 #[.iface 80 (.agg #[.int .i64 1])] W fun e w' => e = .returned (.int .i64 1) ∧ Below W.heap.size W w') := reason_1
  refine callsD_of_wpS Try.func29 rfl fun c₀ cs hu => ?_
  apply wpS_seq
  apply wpS_region
  simp [wpOpsS, go_sem, recoverD, hu, Try.ntmps29, Exit.thenS]
  refine wpS_of_wp ?_
  go_wp2_with fail
  (with_reducible refine (HR.out _).mono ?_)
  rintro e w1 ⟨rfl, b1⟩
  have c0 := (b1.cell hp).trans hc
  have f0 := (b1.frozen hp).trans hz
  have c1 := (b1.cell hq).trans hd
  have f1 := (b1.frozen hq).trans hy
  go_wp2
  simp [bodyPostS, results, Try.results29, go_sem]
  exact ⟨w1, b1, rfl⟩
theorem idle (p q : Addr) (w : World) :
    CallsD Try.prog 29 #[.pointer (some p), .pointer (some q)] .returning w fun e u' w' => e = .returned (.tuple #[]) ∧ u' = .returning ∧ w' = w := by
  refine callsD_of_wpS Try.func29 rfl fun c₀ cs hu => ?_
  apply wpS_seq
  apply wpS_region
  simp [wpOpsS, go_sem, recoverD, hu, Try.ntmps29, Exit.thenS]
  refine wpS_of_wp ?_
  go_wp2
  cases c₀
  simp_all [bodyPostS, results, Try.results29]
end Go.Proofs.Ytpgccfgldjeomaa
