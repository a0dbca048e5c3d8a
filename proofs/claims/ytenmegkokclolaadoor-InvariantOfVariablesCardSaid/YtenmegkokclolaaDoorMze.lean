/- Apply, Solves and Cost of package multi. -/
import Derived.Test.YtenmegkokclolaaDoorMzd
namespace Go.Proofs.YtenmegkokclolaaDoor
open Go.RowKit
set_option linter.unusedSimpArgs false
set_option linter.unusedVariables false
set_option maxRecDepth 100000


/-- The fault and the state of Apply. -/
def apF (x : MT) (s : List Int) (op : Int) : Int × Int := if (ckM x s [op]).1 ≠ 0 then ckM x s [op] else if holdB s (mop x.ops op.toNat).pre then (0, 0) else (11, op)
def apR (x : MT) (s : List Int) (op : Int) : List Int := if (apF x s op).1 = 0 then aft s (mop x.ops op.toNat).post else []
theorem lst_new1 (w : World) (op : Int) : Lst (w.alloc (.cells #[.int .i64 op] 3)) (w.alloc (.cells #[.int .i64 op] 3)).heap.size (some ⟨w.heap.size, 0, none⟩) 1 [op] := lst_one (by simp) (by simp)
end Go.Proofs.YtenmegkokclolaaDoor
