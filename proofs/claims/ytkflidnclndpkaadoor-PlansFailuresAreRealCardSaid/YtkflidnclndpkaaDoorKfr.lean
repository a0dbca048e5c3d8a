/- The law StripsFrame: the walk. -/
import Derived.Test.YtkflidnclndpkaaDoorKlr
namespace Go.Proofs.YtkflidnclndpkaaDoor
open Go.RowKit
set_option linter.unusedSimpArgs false
set_option linter.unusedVariables false
set_option maxRecDepth 100000

theorem ayF_zero {x : Tsk} {s : List Int} {op : Int} (h : (ayF x s op).1 = 0) : (stF x s).1 = 0 ∧ 0 ≤ op ∧ op < x.ops.length ∧ subB (opn x op).pre s = true := by
  unfold ayF at h
  by_cases hc : (ckF x s [op]).1 = 0
  · obtain ⟨_, h1, h2, h3⟩ := ckF_op hc
    rw [if_neg (by simpa using hc)] at h
    refine ⟨h1, h2, h3, ?_⟩
    cases hp : subB (opn x op).pre s
    · rw [hp] at h; simp at h
    · rfl
  · rw [if_pos hc] at h
    exact absurd h hc
theorem ayL_bad {x : Tsk} {s : List Int} {op : Int} (h : (ayF x s op).1 ≠ 0) : ayL x s op = [] := by
  unfold ayL
  rw [if_neg h]
theorem ayL_good {x : Tsk} {s : List Int} {op : Int} (h : (ayF x s op).1 = 0) : ayL x s op = aftL x.n.toNat (opn x op).add (opn x op).del s := by
  unfold ayL
  rw [if_pos h]
theorem ayL_mem {x : Tsk} {s : List Int} {op : Int} (h : (ayF x s op).1 = 0) (y : Int) : y ∈ ayL x s op ↔ y ∈ (opn x op).add ∨ (y ∈ s ∧ y ∉ (opn x op).del) := by
  obtain ⟨h1, h2, h3, _⟩ := ayF_zero h
  obtain ⟨hv, hss⟩ := stF_val h1
  rw [ayL_good h]
  exact mem_aftL (op_val hv h2 h3).1.add hss
/-- An operator changes only what it adds or deletes. -/
theorem fr_keep {x : Tsk} {s : List Int} {op : Int} (h : (ayF x s op).1 = 0) {y : Int} (h1 : hasB (opn x op).add y = false) (h2 : hasB (opn x op).del y = false) : hasB (ayL x s op) y = hasB s y := by
  unfold hasB at *
  rw [decide_eq_false_iff_not] at h1 h2
  rw [decide_eq_decide, ayL_mem h]
  constructor
  · rintro (h3 | ⟨h3, _⟩)
    · exact absurd h3 h1
    · exact h3
  · intro h3
    exact .inr ⟨h3, h2⟩
theorem fr_add {x : Tsk} {s : List Int} {op : Int} (h : (ayF x s op).1 = 0) : subB (opn x op).add (ayL x s op) = true :=
  subB_iff.2 fun y hy => (ayL_mem h y).2 (.inl hy)
theorem fr_del {x : Tsk} {s : List Int} {op : Int} (h : (ayF x s op).1 = 0) : disB (opn x op).del (ayL x s op) = true := by
  obtain ⟨h1, h2, h3, _⟩ := ayF_zero h
  have hd := (op_val (stF_val h1).1 h2 h3).2
  rw [disB_iff] at hd
  exact disB_iff.2 fun y hy hn => by
    rcases (ayL_mem h y).1 hn with h4 | h4
    · exact hd y h4 hy
    · exact h4.2 hy

end Go.Proofs.YtkflidnclndpkaaDoor
