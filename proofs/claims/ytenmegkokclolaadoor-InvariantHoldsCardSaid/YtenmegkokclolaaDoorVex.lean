/- The closed example of the laws on tasks: steps. -/
import Derived.Test.YtenmegkokclolaaDoorVfd
import Derived.Test.YtenmegkokclolaaDoorNb
namespace Go.Proofs.YtenmegkokclolaaDoor
open Go.RowKit
set_option linter.unusedSimpArgs false
set_option linter.unusedVariables false
set_option maxRecDepth 100000

def exOps : List Opr := [⟨[0], [1], [0], 2⟩, ⟨[1], [2], [1], 3⟩]
/-- The task of the closed example. -/
structure IsEx (x : Tsk) : Prop where
  n : x.n = 3
  init : x.init = [0]
  goal : x.goal = [2]
  ops : x.ops = exOps
def StepsPost (w : World) (e : Ending) (w' : World) : Prop := ∃ x : Tsk, e = .returned (.agg #[.int .i64 x.n, .slice x.ai x.init.length x.ci, .slice x.ag x.goal.length x.cg, .slice x.ao x.ops.length x.co]) ∧ IsEx x ∧ TskIn w' w'.heap.size x ∧ Below w.heap.size w w'

theorem ex_in {W : World} {g : Nat} (hz : W.heap.size = g + 1 + 1 + 1 + 1 + 1 + 1 + 1 + 1 + 1 + 1) (h1 : W.cell? ⟨g + 1, 0, none⟩ = some (.int .i64 0)) (h2 : W.cell? ⟨g + 1 + 1, 0, none⟩ = some (.int .i64 2)) (h3 : W.cell? ⟨g + 1 + 1 + 1, 0, none⟩ = some (.int .i64 0)) (h4 : W.cell? ⟨g + 1 + 1 + 1 + 1, 0, none⟩ = some (.int .i64 1)) (h5 : W.cell? ⟨g + 1 + 1 + 1 + 1 + 1, 0, none⟩ = some (.int .i64 0)) (h6 : W.cell? ⟨g + 1 + 1 + 1 + 1 + 1 + 1, 0, none⟩ = some (.int .i64 1)) (h7 : W.cell? ⟨g + 1 + 1 + 1 + 1 + 1 + 1 + 1, 0, none⟩ = some (.int .i64 2)) (h8 : W.cell? ⟨g + 1 + 1 + 1 + 1 + 1 + 1 + 1 + 1, 0, none⟩ = some (.int .i64 1)) (o0 : W.cell? ⟨g + 1 + 1 + 1 + 1 + 1 + 1 + 1 + 1 + 1, 0, none⟩ = some (.slice (some ⟨g + 1 + 1 + 1, 0, none⟩) 1 1)) (o1 : W.cell? ⟨g + 1 + 1 + 1 + 1 + 1 + 1 + 1 + 1 + 1, 1, none⟩ = some (.slice (some ⟨g + 1 + 1 + 1 + 1, 0, none⟩) 1 1)) (o2 : W.cell? ⟨g + 1 + 1 + 1 + 1 + 1 + 1 + 1 + 1 + 1, 2, none⟩ = some (.slice (some ⟨g + 1 + 1 + 1 + 1 + 1, 0, none⟩) 1 1)) (o3 : W.cell? ⟨g + 1 + 1 + 1 + 1 + 1 + 1 + 1 + 1 + 1, 3, none⟩ = some (.int .i64 2)) (o4 : W.cell? ⟨g + 1 + 1 + 1 + 1 + 1 + 1 + 1 + 1 + 1, 4, none⟩ = some (.slice (some ⟨g + 1 + 1 + 1 + 1 + 1 + 1, 0, none⟩) 1 1)) (o5 : W.cell? ⟨g + 1 + 1 + 1 + 1 + 1 + 1 + 1 + 1 + 1, 5, none⟩ = some (.slice (some ⟨g + 1 + 1 + 1 + 1 + 1 + 1 + 1, 0, none⟩) 1 1)) (o6 : W.cell? ⟨g + 1 + 1 + 1 + 1 + 1 + 1 + 1 + 1 + 1, 6, none⟩ = some (.slice (some ⟨g + 1 + 1 + 1 + 1 + 1 + 1 + 1 + 1, 0, none⟩) 1 1)) (o7 : W.cell? ⟨g + 1 + 1 + 1 + 1 + 1 + 1 + 1 + 1 + 1, 7, none⟩ = some (.int .i64 3)) :
    TskIn W W.heap.size ⟨3, [0], [2], exOps, some ⟨g + 1, 0, none⟩, some ⟨g + 1 + 1, 0, none⟩, some ⟨g + 1 + 1 + 1 + 1 + 1 + 1 + 1 + 1 + 1, 0, none⟩, 1, 1, 2⟩ := by
  have l : ∀ {a : Nat} {v : Int}, a < g + 1 + 1 + 1 + 1 + 1 + 1 + 1 + 1 + 1 + 1 → W.cell? ⟨a, 0, none⟩ = some (.int .i64 v) → Lst W W.heap.size (some ⟨a, 0, none⟩) 1 [v] := fun ha h => lst_cell (by omega) h (by omega) (by simp [maxLen])
  refine ⟨l (by omega) h1, l (by omega) h2, fun _ => ⟨_, 0, rfl, by omega, fun k hk => ?_⟩, by simp [exOps], by simp [maxLen]⟩
  match k, hk with
  | 0, _ => exact ⟨_, _, _, 1, 1, 1, ⟨o0, o1, o2, o3⟩, ⟨l (by omega) h3, l (by omega) h4, l (by omega) h5⟩⟩
  | 1, _ => exact ⟨_, _, _, 1, 1, 1, ⟨o4, o5, o6, o7⟩, ⟨l (by omega) h6, l (by omega) h7, l (by omega) h8⟩⟩

set_option maxHeartbeats 2000000 in
theorem steps_any (w : World) : Calls Tryd.prog 28 #[] w (StepsPost w) := by
  go_enter Tryd.func28, Tryd.ntmps28
  go_wp2
  go_returns
  refine ⟨⟨3, [0], [2], exOps, some ⟨w.heap.size + 1, 0, none⟩, some ⟨w.heap.size + 1 + 1, 0, none⟩, some ⟨w.heap.size + 1 + 1 + 1 + 1 + 1 + 1 + 1 + 1 + 1, 0, none⟩, 1, 1, 2⟩, rfl, ⟨rfl, rfl, rfl, rfl⟩, ?_, by go_grown⟩
  refine ex_in (g := w.heap.size) ?_ ?_ ?_ ?_ ?_ ?_ ?_ ?_ ?_ ?_ ?_ ?_ ?_ ?_ ?_ ?_ ?_
  all_goals (first | (simp; done) | (go_simp; done) | (simp [go_sem]; done))
end Go.Proofs.YtenmegkokclolaaDoor
