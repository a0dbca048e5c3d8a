/- IsSet of the reference; TrailingZeros64; list and after of package strips. -/
import Derived.Test.YthlafcmabeiagaaKlf
import Derived.Shelf.Spec.TrailingZeros
namespace Go.Proofs.Ythlafcmabeiagaa
open Go.RowKit
set_option linter.unusedSimpArgs false
set_option linter.unusedVariables false
set_option maxRecDepth 100000

theorem run_u64 (m : Nat) (hm : m < 18446744073709551616) : IntKind.u64.wrap (m : Int) = m := by rw [IntKind.wrap_u64]; omega
/-- A new slice that holds xs comes back; all below is kept. -/
def ListPost (w : World) (xs : List Int) (e : Ending) (w' : World) : Prop := ∃ v, e = .returned v ∧ w'.ownsRow w.heap.size 3 1 v xs.length (xs.map (Value.int .i64)) ∧ Below w.heap.size w w'

theorem bits_drop (q : Nat) (h0 : q ≠ 0) (h : q < 18446744073709551616) : bits .and .u64 (q : Int) (IntKind.u64.wrap ((q : Int) - 1)) = ((q &&& (q - 1) : Nat) : Int) := by
  have e : IntKind.u64.wrap ((q : Int) - 1) = ((q - 1 : Nat) : Int) := by rw [IntKind.wrap_u64]; omega
  rw [e]
  exact u64_and_nat _ _ h (by omega)

end Go.Proofs.Ythlafcmabeiagaa

