/- The law StripsMatchesSpec: the walk where the state has no fault. -/
import Derived.Test.YtkflidnclndpkaaDoorKma
import Derived.Deep.CutRange
namespace Go.Proofs.YtkflidnclndpkaaDoor
open Go.RowKit
set_option linter.unusedSimpArgs false
set_option linter.unusedVariables false
set_option maxRecDepth 100000

def rgF (x : Tsk) (s : List Int) (m j : Nat) : Bool := hasB (opr x.ops m).pre j || (hasB s j && !hasB (opr x.ops m).add j)
theorem rgF_no {x : Tsk} {s : List Int} {m j : Nat} (h : rgF x s m j = false) : hasB (opr x.ops m).pre j = false ∧ (hasB s j = true → hasB (opr x.ops m).add j = true) := by
  unfold rgF at h
  rw [Bool.or_eq_false_iff] at h
  exact ⟨h.1, fun h2 => by rw [h2] at h; simpa using h.2⟩
theorem rgF_yes {x : Tsk} {s : List Int} {m j : Nat} (h : rgF x s m j = true) (h1 : hasB (opr x.ops m).pre j = false) : hasB s j = true ∧ hasB (opr x.ops m).add j = false := by
  unfold rgF at h
  rw [h1] at h
  simpa using h
theorem ck_out {x : Tsk} {s : List Int} {op : Int} (h : (stF x s).1 = 0) (ho : ¬ (0 ≤ op ∧ op < x.ops.length)) : ckF x s [op] = (3, -6) := by
  unfold ckF spF
  rw [if_neg (by simpa using h), if_neg (by simp), if_neg]
  intro hp
  exact ho (planB_at hp (k := 0) (by simp))
def apF (x : Tsk) (s : List Int) (k : Nat) : Bool := subB (opr x.ops k).pre s
theorem appM_good {x : Tsk} {s : List Int} (h : (stF x s).1 = 0) : facs x.ops.length (apF x s) = appM x s := by
  unfold appM
  rw [if_pos h]; rfl
end Go.Proofs.YtkflidnclndpkaaDoor
