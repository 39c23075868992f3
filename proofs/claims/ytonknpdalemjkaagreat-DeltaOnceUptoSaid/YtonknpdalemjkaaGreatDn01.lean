/- texts put together: LabName, LabSame, LabLess, LabOrd, LabEsc, LabMath, OrsMath. -/
import Derived.Laws.RangeAny
import Derived.Lib.Bytealg
import Derived.Lib.OthersKept
import Derived.Sort.LotA
import Derived.Sort.Walk0
import Derived.Test.YtonknpdalemjkaaGreatRows
import Derived.Test.YtonknpdalemjkaaGreatDe00
import Derived.Test.YtonknpdalemjkaaGreatDe01
import Derived.Test.YtonknpdalemjkaaGreatDe02
import Derived.Test.YtonknpdalemjkaaGreatDe03
import Derived.Test.YtonknpdalemjkaaGreatDe04
import Derived.Test.YtonknpdalemjkaaGreatDe05
import Derived.Test.YtonknpdalemjkaaGreatDe06
import Derived.Test.YtonknpdalemjkaaGreatDe07
import Derived.Test.YtonknpdalemjkaaGreatDe08
import Derived.Test.YtonknpdalemjkaaGreatDe09
import Derived.Test.YtonknpdalemjkaaGreatDe10
import Derived.Test.YtonknpdalemjkaaGreatDe11
import Derived.Test.YtonknpdalemjkaaGreatDe12
import Derived.Test.YtonknpdalemjkaaGreatDe13
import Derived.Test.YtonknpdalemjkaaGreatDe14
import Derived.Test.YtonknpdalemjkaaGreatDe15
import Derived.Test.YtonknpdalemjkaaGreatDe16
import Derived.Test.YtonknpdalemjkaaGreatDe17
import Derived.Test.YtonknpdalemjkaaGreatDe18
import Derived.Test.YtonknpdalemjkaaGreatDe19
import Derived.Test.YtonknpdalemjkaaGreatDe20
import Derived.Test.YtonknpdalemjkaaGreatDe21
import Derived.Test.YtonknpdalemjkaaGreatDe22
import Derived.Test.YtonknpdalemjkaaGreatDe23
import Derived.Test.YtonknpdalemjkaaGreatDe24
import Derived.Test.YtonknpdalemjkaaGreatDn00
namespace Go.Proofs.YtonknpdalemjkaaGreat
open Go Go.RowKit Go.ChangeShapes cl
namespace os
theorem Fine.bd {e : Ent} (h : Fine e) : 0 ≤ e.d.1 ∧ e.d.1 < 16 ∧ 1 ≤ e.d.2 ∧ e.d.2 ≤ 1099511627776 := (dm.valid_iff e.d).1 h.ok
end os
end Go.Proofs.YtonknpdalemjkaaGreat

