/- CostOf, Ends, Works and Solves of the reference. -/
import Derived.Test.YtenmegkokclolaaDoorKaq
namespace Go.Proofs.YtenmegkokclolaaDoor
open Go.RowKit
set_option linter.unusedSimpArgs false
set_option linter.unusedVariables false
set_option maxRecDepth 100000

/-- The state after the first k steps, if they can be executed. -/
def runTo (x : Tsk) (n : Nat) (s plan : List Int) : Nat → Option (List Int)
  | 0 => some s
  | k + 1 => match runTo x n s plan k with
    | none => none
    | some t => if subB (opn x (ix plan k)).pre t then some (aftL n (opn x (ix plan k)).add (opn x (ix plan k)).del t) else none
theorem runTo_step {x : Tsk} {n : Nat} {s plan t : List Int} {k : Nat} (h : runTo x n s plan k = some t) : runTo x n s plan (k + 1) = if subB (opn x (ix plan k)).pre t then some (aftL n (opn x (ix plan k)).add (opn x (ix plan k)).del t) else none := by
  simp only [runTo, h]
theorem runTo_none {x : Tsk} {n : Nat} {s plan : List Int} {k : Nat} (h : runTo x n s plan k = none) : ∀ j, k ≤ j → runTo x n s plan j = none := by
  intro j hj
  induction j with
  | zero => have : k = 0 := by omega
            subst this; exact h
  | succ j ih =>
    by_cases e : k = j + 1
    · subst e; exact h
    · simp only [runTo, ih (by omega)]

theorem TBox.drewN {w : World} {g : Nat} {x : Tsk} (h : TBox w g x) (n : Nat) : TBox (w.drewN n) g x := ⟨h.lt, h.c0, h.c1, h.c2, h.c3⟩
theorem TBox.drew {w : World} {g : Nat} {x : Tsk} (h : TBox w g x) : TBox w.drew g x := ⟨h.lt, h.c0, h.c1, h.c2, h.c3⟩

def EndsPost (w : World) (r : Option (List Int)) (e : Ending) (w' : World) : Prop := ∃ v, e = .returned (.tuple #[v, .bool r.isSome]) ∧ SliceOf w' v (r.getD []) ∧ Below w.heap.size w w'

/-- A plan leads from s to the goal. -/
def solB (x : Tsk) (n : Nat) (s plan : List Int) : Bool := match runTo x n s plan plan.length with | none => false | some t => subB x.goal t

end Go.Proofs.YtenmegkokclolaaDoor
