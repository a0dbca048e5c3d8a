/- The law StripsPlansMatchSpec: the walk. -/
import Derived.Test.YtkflidnclndpkaaDoorKpq
import Derived.Deep.CutRange
import Derived.Deep.CutBlock
namespace Go.Proofs.YtkflidnclndpkaaDoor
open Go.RowKit
set_option linter.unusedSimpArgs false
set_option linter.unusedVariables false
set_option maxRecDepth 100000

theorem svB_no {x : Tsk} {plan : List Int} (h : (plF x plan).1 ≠ 0) : svB x plan = false ∧ coM x plan = 0 := by
  constructor
  · unfold svB; rw [decide_eq_false h]; rfl
  · unfold coM; rw [if_neg h]
theorem svB_yes {x : Tsk} {plan : List Int} (h : (plF x plan).1 = 0) : svB x plan = solB x x.n.toNat x.init plan ∧ coM x plan = costTo x plan plan.length := by
  constructor
  · unfold svB; rw [decide_eq_true h]; rfl
  · unfold coM; rw [if_pos h]
/-- What the loop over the steps knows: all before k can be executed, or the fault is found. -/
def LSt (x : Tsk) (s plan : List Int) (k : Nat) (g1 g2 : Int) : Prop :=
  (g1 = 0 ∧ g2 = 0 ∧ (ckF x s plan).1 = 0 ∧ (runTo x x.n.toNat s plan k).isSome = true) ∨ (g1 ≠ 0 ∧ plyF x s plan = (g1, g2))
theorem LSt.start (x : Tsk) (s plan : List Int) : LSt x s plan 0 (ckF x s plan).1 (ckF x s plan).2 := by
  by_cases h : (ckF x s plan).1 = 0
  · exact .inl ⟨h, by rw [(ckF_zero h).1], h, rfl⟩
  · exact .inr ⟨h, plyF_ck h⟩
theorem LSt.bad {x : Tsk} {s plan : List Int} {k : Nat} {g1 g2 : Int} (h : LSt x s plan k g1 g2) (hg : ¬ g1 = 0) : plyF x s plan = (g1, g2) := by
  rcases h with h | h
  · exact absurd h.1 hg
  · exact h.2
theorem LSt.good {x : Tsk} {s plan : List Int} {k : Nat} {g1 g2 : Int} (h : LSt x s plan k g1 g2) (hg : g1 = 0) : g2 = 0 ∧ (ckF x s plan).1 = 0 ∧ (runTo x x.n.toNat s plan k).isSome = true := by
  rcases h with h | h
  · exact h.2
  · exact absurd hg h.1
/-- A store into the box of the fault keeps the rest. -/
theorem alive_set {w W : World} {x : Tsk} {a2 a3 : Option Addr} {c2 c3 : Nat} {s plan : List Int} {g : Nat} {u v : Value} (hX : ∀ W, Below w.heap.size w W → TskIn W W.heap.size x) (hS : ∀ W, Below w.heap.size w W → Lst W W.heap.size a2 c2 s) (hL : ∀ W, Below w.heap.size w W → Lst W W.heap.size a3 c3 plan) (hT : ∀ W, Below w.heap.size w W → TabIn W)
    (hg : w.heap.size < g) (h : Alive (twoS g u v :: [boxS w.heap.size x, tskS x, lstS a2 c2 s, lstS a3 c3 plan, tabS, belS w]) W) (a b : Value) : Alive (twoS g a b :: [boxS w.heap.size x, tskS x, lstS a2 c2 s, lstS a3 c3 plan, tabS, belS w]) ((W.setCell ⟨g, 0, none⟩ a).setCell ⟨g, 1, none⟩ b) := by
  have htw := (show Two W g u v from h (twoS g u v) (by simp)).set a b
  have hbx := ((show TBox W w.heap.size x from h (boxS w.heap.size x) (by simp)).far (p := ⟨g, 0, none⟩) (Nat.ne_of_gt hg) a).far (p := ⟨g, 1, none⟩) (Nat.ne_of_gt hg) b
  have hbel := ((show Below w.heap.size w W from h (belS w) (by simp)).setCell (p := ⟨g, 0, none⟩) (Nat.le_of_lt hg) a).setCell (p := ⟨g, 1, none⟩) (Nat.le_of_lt hg) b
  exact Alive.cons (twoS g a b) htw (Alive.cons (boxS w.heap.size x) hbx (Alive.cons (tskS x) (hX _ hbel) (Alive.cons (lstS a2 c2 s) (hS _ hbel) (Alive.cons (lstS a3 c3 plan) (hL _ hbel) (Alive.cons tabS (hT _ hbel) (Alive.cons (belS w) hbel (Alive.nil _)))))))
end Go.Proofs.YtkflidnclndpkaaDoor
