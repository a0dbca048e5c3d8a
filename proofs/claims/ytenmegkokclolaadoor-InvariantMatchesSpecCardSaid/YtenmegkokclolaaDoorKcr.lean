/- StateOk, StateFault, StepsFault and PlanFault of the reference. -/
import Derived.Test.YtenmegkokclolaaDoorKck
namespace Go.Proofs.YtenmegkokclolaaDoor
open Go.RowKit
set_option linter.unusedSimpArgs false
set_option linter.unusedVariables false
set_option maxRecDepth 100000

theorem run_code (x y : Value) (W : World) : (Instr.field 27 (.agg #[x, y]) 0).run Tryd.prog W = .ok x W := by kernel_rfl

theorem stB_in (m : Nat) (plan : List Int) (k : Nat) : inB (ix plan k) 0 ((m : Int) - 1) = stB m plan k := by
  unfold inB stB
  rw [decide_eq_decide]
  omega

end Go.Proofs.YtenmegkokclolaaDoor
