/- arrays of numbers: when they are alike. -/
import Derived.Test.YtbccejlemhgioaaKit
namespace Go.Proofs.Ytbccejlemhgioaa
open Go Go.RowKit Go.ChangeShapes
section
variable {P : Program}
theorem part_int (w : World) {e : TypeId} (he : P.underlying e = some (.int .u64)) {xs : Array Value} {off : Nat} {v : Value} (hx : xs[off]? = some v) : (part e xs off).run P w = .ok v w := by
  simp [part, isAgg, run_underlying he, hx, Sem.run_bind]
theorem arr4_eq (w : World) (d : Nat) (t e : TypeId) (i : TypeInfo) (a b c f a' b' c' f' : Int) (ht : P.underlying t = some (.array 4 e)) (he : P.underlying e = some (.int .u64)) (hi : P.info? e = some i) (h1 : P.cellsOf e = 1) :
    (Op.equalIn (d + 2) t (.agg #[.int .u64 a, .int .u64 b, .int .u64 c, .int .u64 f]) (.agg #[.int .u64 a', .int .u64 b', .int .u64 c', .int .u64 f'])).run P w = .ok (a == a' && (b == b' && (c == c' && f == f'))) w := by
  have hs : ∀ w : World, (sizeOf e).run P w = .ok 1 w := fun w => by rw [run_sizeOf w hi, h1]
  have p0 : ∀ w : World, (part e #[.int .u64 a, .int .u64 b, .int .u64 c, .int .u64 f] 0).run P w = .ok (.int .u64 a) w := fun w => part_int w he rfl
  have p1 : ∀ w : World, (part e #[.int .u64 a, .int .u64 b, .int .u64 c, .int .u64 f] 1).run P w = .ok (.int .u64 b) w := fun w => part_int w he rfl
  have p2 : ∀ w : World, (part e #[.int .u64 a, .int .u64 b, .int .u64 c, .int .u64 f] 2).run P w = .ok (.int .u64 c) w := fun w => part_int w he rfl
  have p3 : ∀ w : World, (part e #[.int .u64 a, .int .u64 b, .int .u64 c, .int .u64 f] 3).run P w = .ok (.int .u64 f) w := fun w => part_int w he rfl
  have q0 : ∀ w : World, (part e #[.int .u64 a', .int .u64 b', .int .u64 c', .int .u64 f'] 0).run P w = .ok (.int .u64 a') w := fun w => part_int w he rfl
  have q1 : ∀ w : World, (part e #[.int .u64 a', .int .u64 b', .int .u64 c', .int .u64 f'] 1).run P w = .ok (.int .u64 b') w := fun w => part_int w he rfl
  have q2 : ∀ w : World, (part e #[.int .u64 a', .int .u64 b', .int .u64 c', .int .u64 f'] 2).run P w = .ok (.int .u64 c') w := fun w => part_int w he rfl
  have q3 : ∀ w : World, (part e #[.int .u64 a', .int .u64 b', .int .u64 c', .int .u64 f'] 3).run P w = .ok (.int .u64 f') w := fun w => part_int w he rfl
  rw [Op.equalIn]
  simp only [Sem.run_bind, run_underlying ht, Result.andThen_ok, hs]
  have hr : (List.range' 0 4 1) = [0, 1, 2, 3] := rfl
  simp only [Std.Legacy.Range.forIn_eq_forIn_range', Std.Legacy.Range.size, Nat.sub_zero, Nat.add_sub_cancel, Nat.div_one, hr, List.forIn_cons, List.forIn_nil, Sem.run_bind, Nat.mul_one, p0, q0, Result.andThen_ok, run_equalIn_int w d e .u64 .u64 _ _ he]
  cases h0 : (a == a')
  · simp
  simp only [Bool.not_true, Bool.false_eq_true, if_false, Sem.run_pure, Sem.run_bind, Result.andThen_ok, p1, q1, run_equalIn_int w d e .u64 .u64 _ _ he]
  cases h1 : (b == b')
  · simp
  simp only [Bool.not_true, Bool.false_eq_true, if_false, Sem.run_pure, Sem.run_bind, Result.andThen_ok, p2, q2, run_equalIn_int w d e .u64 .u64 _ _ he]
  cases h2 : (c == c')
  · simp
  simp only [Bool.not_true, Bool.false_eq_true, if_false, Sem.run_pure, Sem.run_bind, Result.andThen_ok, p3, q3, run_equalIn_int w d e .u64 .u64 _ _ he]
  cases h3 : (f == f') <;> simp
end
end Go.Proofs.Ytbccejlemhgioaa
