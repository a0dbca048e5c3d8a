/- The closed example of the laws on plans: its task, and what the functions answer there. -/
import Derived.Test.YtkflidnclndpkaaDoorPsh
import Derived.Laws.OwnMore
namespace Go.Proofs.YtkflidnclndpkaaDoor
open Go.RowKit
set_option linter.unusedSimpArgs false
set_option linter.unusedVariables false
set_option maxRecDepth 100000

theorem heap_new' {w : World} {o : Obj} {k : Nat} (h : k = w.heap.size) : (w.alloc o).heap[k]? = some o := by
  subst h
  exact World.alloc_heap_new w o
/-- What steps leaves in memory. -/
structure Ex2 (g : Nat) (W : World) : Prop where
  size : W.heap.size = g + 1 + 1 + 1 + 1 + 1 + 1 + 1 + 1 + 1 + 1
  c1 : W.cell? ⟨g + 1, 0, none⟩ = some (.int .i64 0)
  c2 : W.cell? ⟨g + 1 + 1, 0, none⟩ = some (.int .i64 2)
  c3 : W.cell? ⟨g + 1 + 1 + 1, 0, none⟩ = some (.int .i64 0)
  c4 : W.cell? ⟨g + 1 + 1 + 1 + 1, 0, none⟩ = some (.int .i64 1)
  c5 : W.cell? ⟨g + 1 + 1 + 1 + 1 + 1, 0, none⟩ = some (.int .i64 0)
  c6 : W.cell? ⟨g + 1 + 1 + 1 + 1 + 1 + 1, 0, none⟩ = some (.int .i64 1)
  c7 : W.cell? ⟨g + 1 + 1 + 1 + 1 + 1 + 1 + 1, 0, none⟩ = some (.int .i64 2)
  c8 : W.cell? ⟨g + 1 + 1 + 1 + 1 + 1 + 1 + 1 + 1, 0, none⟩ = some (.int .i64 1)
  row : W.ownsRow (g + 1 + 1 + 1 + 1 + 1 + 1 + 1 + 1 + 1) 51 4 (.slice (some ⟨g + 1 + 1 + 1 + 1 + 1 + 1 + 1 + 1 + 1, 0, none⟩) 2 2) 2 [.slice (some ⟨g + 1 + 1 + 1, 0, none⟩) 1 1, .slice (some ⟨g + 1 + 1 + 1 + 1, 0, none⟩) 1 1, .slice (some ⟨g + 1 + 1 + 1 + 1 + 1, 0, none⟩) 1 1, .int .i64 2, .slice (some ⟨g + 1 + 1 + 1 + 1 + 1 + 1, 0, none⟩) 1 1, .slice (some ⟨g + 1 + 1 + 1 + 1 + 1 + 1 + 1, 0, none⟩) 1 1, .slice (some ⟨g + 1 + 1 + 1 + 1 + 1 + 1 + 1 + 1, 0, none⟩) 1 1, .int .i64 3]
set_option maxHeartbeats 2000000 in
theorem steps2_any (w : World) : Calls Tryd.prog 27 #[] w fun e w' => e = .returned (.agg #[.int .i64 3, .slice (some ⟨w.heap.size + 1, 0, none⟩) 1 1, .slice (some ⟨w.heap.size + 1 + 1, 0, none⟩) 1 1, .slice (some ⟨w.heap.size + 1 + 1 + 1 + 1 + 1 + 1 + 1 + 1 + 1, 0, none⟩) 2 2]) ∧ Ex2 w.heap.size w' ∧ Below w.heap.size w w' := by
  go_enter Tryd.func27, Tryd.ntmps27
  go_wp2
  go_returns
  refine ⟨rfl, ⟨?_, ?_, ?_, ?_, ?_, ?_, ?_, ?_, ?_, ?_⟩, by go_grown⟩
  case refine_10 =>
    refine ⟨rfl, .inr ⟨_, 2, #[.slice (some ⟨w.heap.size + 1 + 1 + 1, 0, none⟩) 1 1, .slice (some ⟨w.heap.size + 1 + 1 + 1 + 1, 0, none⟩) 1 1, .slice (some ⟨w.heap.size + 1 + 1 + 1 + 1 + 1, 0, none⟩) 1 1, .int .i64 2, .slice (some ⟨w.heap.size + 1 + 1 + 1 + 1 + 1 + 1, 0, none⟩) 1 1, .slice (some ⟨w.heap.size + 1 + 1 + 1 + 1 + 1 + 1 + 1, 0, none⟩) 1 1, .slice (some ⟨w.heap.size + 1 + 1 + 1 + 1 + 1 + 1 + 1 + 1, 0, none⟩) 1 1, .int .i64 3], rfl, Nat.le_refl _, ?_, by omega, by simp [maxLen], ?_, ?_⟩⟩
    · exact heap_new' (by simp)
    · rfl
    · rfl
  all_goals (first | (simp; done) | (go_simp; done) | (simp [go_sem]; done))

end Go.Proofs.YtkflidnclndpkaaDoor
