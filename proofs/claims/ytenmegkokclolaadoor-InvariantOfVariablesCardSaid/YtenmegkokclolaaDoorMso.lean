/- MultiSolves of the reference. -/
import Derived.Test.YtenmegkokclolaaDoorMaf
namespace Go.Proofs.YtenmegkokclolaaDoor
open Go.RowKit
set_option linter.unusedSimpArgs false
set_option linter.unusedVariables false
set_option maxRecDepth 100000

/-- A state in memory. -/
structure StM (W : World) (s : Value) (t : List Int) : Prop where
  ex : ∃ a c, s = .slice a t.length c ∧ Lst W W.heap.size a c t ∧ (a = none → c = 0)
theorem StM.to {W W' : World} {s : Value} {t : List Int} (h : StM W s t) (hb : Below W.heap.size W W') : StM W' s t := by
  obtain ⟨a, c, e, hl, h0⟩ := h.ex
  exact ⟨a, c, e, hl.to hb hb.size, h0⟩
theorem stM_own {W : World} {base : Nat} {v : Value} {t : List Int} (h : W.ownsRow base 3 1 v t.length (t.map (Value.int .i64))) : StM W v t := by
  obtain ⟨a, c, e, hl, h0⟩ := own_lst h
  exact ⟨a, c, e, hl, h0⟩
end Go.Proofs.YtenmegkokclolaaDoor
