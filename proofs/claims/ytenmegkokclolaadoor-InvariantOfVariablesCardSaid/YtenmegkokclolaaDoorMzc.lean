/- holds and step of package multi. -/
import Derived.Test.YtenmegkokclolaaDoorMza
import Derived.Test.YtenmegkokclolaaDoorMaf
namespace Go.Proofs.YtenmegkokclolaaDoor
open Go.RowKit
set_option linter.unusedSimpArgs false
set_option linter.unusedVariables false
set_option maxRecDepth 100000


theorem own_l2 {w : World} {base : Nat} {a : Option Addr} {c : Nat} {l : List Int} (h : w.ownsRow base 3 1 (.slice a l.length c) l.length (l.map (Value.int .i64))) : Lst w w.heap.size a c l := by
  obtain ⟨a', c', e, hl, _⟩ := own_lst h
  cases e
  exact hl
theorem holdB_any (s : List Int) (l : List Asg) : holdB s l = !(List.range l.length).any (fun j => !h1B s l j) := by
  unfold holdB allB
  rw [Bool.eq_iff_iff]
  simp
/-- What step leaves: the state in its row. -/
def StP (w : World) (base g cap : Nat) (s : List Int) (o : MOp) (e : Ending) (w' : World) : Prop :=
  e = .returned (.bool (holdB s o.pre)) ∧ Row w' base g cap (if holdB s o.pre then aft s o.post else s) ∧ Below base w w'
end Go.Proofs.YtenmegkokclolaaDoor
