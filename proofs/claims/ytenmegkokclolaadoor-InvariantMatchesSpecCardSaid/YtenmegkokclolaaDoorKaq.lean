/- Applies, After and CostOf of the reference. -/
import Derived.Test.YtenmegkokclolaaDoorKco
namespace Go.Proofs.YtenmegkokclolaaDoor
open Go.RowKit
set_option linter.unusedSimpArgs false
set_option linter.unusedVariables false
set_option maxRecDepth 100000

theorem TBox.alloc {w : World} {g : Nat} {x : Tsk} (h : TBox w g x) (o : Obj) : TBox (w.alloc o) g x := h.to ((Below.refl _ _).alloc (Nat.le_refl _) o) h.lt

theorem aftL_eq (n : Nat) (add del s : List Int) : aftL n add del s = facs n (fun p => hasB add p || (hasB s p && !hasB del p)) := rfl

end Go.Proofs.YtenmegkokclolaaDoor
