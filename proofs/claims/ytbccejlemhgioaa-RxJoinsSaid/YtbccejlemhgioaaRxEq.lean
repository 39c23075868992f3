/- classes: when they are alike. -/
import Derived.Test.YtbccejlemhgioaaRxGat
import Derived.Test.YtbccejlemhgioaaArrEq
namespace Go.Proofs.Ytbccejlemhgioaa
open Go Go.RowKit Go.ChangeShapes cl rx
/-- nothing is in it -/
def rx.Cls.isz (x : Cls) : Bool := decide (x = Cls.zero)
def rx.Cls.eqq (x y : Cls) : Bool := decide (x = y)
theorem u64_under : (Try.prog).underlying 23 = some (.int .u64) := by rfl
theorem cls_under : (Try.prog).underlying 25 = some (.array 4 23) := by rfl
theorem u64_cells : (Try.prog).cellsOf 23 = 1 := by rfl
theorem u64_info : ∃ i, (Try.prog).info? 23 = some i := ⟨_, rfl⟩
theorem eqq_is (x y : Cls) : ((x.a : Int) == (y.a : Int) && ((x.b : Int) == (y.b : Int) && ((x.c : Int) == (y.c : Int) && (x.d : Int) == (y.d : Int)))) = x.eqq y := by
  obtain ⟨a, b, c, d⟩ := x
  obtain ⟨e, f, g, h⟩ := y
  unfold Cls.eqq
  rw [Bool.eq_iff_iff]
  simp only [Bool.and_eq_true, beq_iff_eq, decide_eq_true_eq, Int.natCast_inj, Cls.mk.injEq]
@[go_sem] theorem cls_eq (x y : Cls) (w : World) : (Op.equalIn 10000 25 (.agg #[.int .u64 x.a, .int .u64 x.b, .int .u64 x.c, .int .u64 x.d]) (.agg #[.int .u64 y.a, .int .u64 y.b, .int .u64 y.c, .int .u64 y.d])).run Try.prog w = .ok (x.eqq y) w := by
  obtain ⟨i, hi⟩ := u64_info
  rw [← eqq_is]
  exact arr4_eq w 9998 _ _ i _ _ _ _ _ _ _ _ cls_under u64_under hi u64_cells
@[go_sem] theorem cls_eq0 (x : Cls) (w : World) : (Op.equalIn 10000 25 (.agg #[.int .u64 x.a, .int .u64 x.b, .int .u64 x.c, .int .u64 x.d]) (.agg #[.int .u64 0, .int .u64 0, .int .u64 0, .int .u64 0])).run Try.prog w = .ok x.isz w := cls_eq x Cls.zero w
@[go_sem] theorem cls_eq00 (w : World) : (Op.equalIn 10000 25 (.agg #[.int .u64 0, .int .u64 0, .int .u64 0, .int .u64 0]) (.agg #[.int .u64 0, .int .u64 0, .int .u64 0, .int .u64 0])).run Try.prog w = .ok true w := cls_eq Cls.zero Cls.zero w
theorem rx.Cls.isz_of {x : Cls} (h : x ≠ Cls.zero) : x.isz = false := decide_eq_false h
theorem rx.Cls.isz_zero : Cls.zero.isz = true := decide_eq_true rfl
end Go.Proofs.Ytbccejlemhgioaa
