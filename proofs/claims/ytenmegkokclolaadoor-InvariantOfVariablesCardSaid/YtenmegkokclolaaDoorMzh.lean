/- Solves and Cost of package multi. -/
import Derived.Test.YtenmegkokclolaaDoorMzd
namespace Go.Proofs.YtenmegkokclolaaDoor
open Go.RowKit
set_option linter.unusedSimpArgs false
set_option linter.unusedVariables false
set_option maxRecDepth 100000


/-- A value and a fault. -/
def VlF (w : World) (v : Value) (f : Int × Int) (e : Ending) (w' : World) : Prop := e = .returned (.tuple #[v, faultV f]) ∧ Below w.heap.size w w'
def slB (x : MT) (plan : List Int) : Bool := if (ckM x x.init plan).1 = 0 then msol x plan else false
def coN (x : MT) (plan : List Int) : Int := if (ckM x x.init plan).1 = 0 then mcost x.ops plan plan.length else 0
end Go.Proofs.YtenmegkokclolaaDoor
