/- MultiAfter of the reference. -/
import Derived.Test.YtenmegkokclolaaDoorMft
namespace Go.Proofs.YtenmegkokclolaaDoor
open Go.RowKit
set_option linter.unusedSimpArgs false
set_option linter.unusedVariables false
set_option maxRecDepth 100000

theorem own_some1 {W : World} {base n : Nat} {e : TypeId} {v : Value} {xs : List Value} (h : W.ownsRow base e 1 v n xs) (hn : 1 ≤ n) : ∃ g cap, v = .slice (some ⟨g, 0, none⟩) n cap ∧ base ≤ g ∧ g < W.heap.size := by
  rcases h.2 with ⟨_, h0⟩ | ⟨g, cap, cur, rfl, hb, hh, _⟩
  · omega
  · exact ⟨g, cap, rfl, hb, (Array.getElem?_eq_some_iff.1 hh).1⟩
/-- A state in a row of its own. -/
abbrev Row (W : World) (base g cap : Nat) (s : List Int) : Prop := W.ownsRow base 3 1 (.slice (some ⟨g, 0, none⟩) s.length cap) s.length (s.map (Value.int .i64))
theorem row_cell {W : World} {base g cap : Nat} {s : List Int} (h : Row W base g cap s) {m : Nat} (hm : m < s.length) : W.cell? ⟨g, m, none⟩ = some (.int .i64 (ix s m)) ∧ W.frozen? ⟨g, m, none⟩ = false := by
  have z1 := h.cellAt m (by omega)
  have z2 := h.frozenAt m
  have hz : (s.map (Value.int .i64))[m]? = some (.int .i64 (ix s m)) := by simp [ix, List.getD, hm]
  rw [hz] at z1
  exact ⟨z1, z2⟩
theorem row_put {W : World} {base g cap : Nat} {s : List Int} (h : Row W base g cap s) (m : Nat) (z : Int) : Row (W.setCell ⟨g, m, none⟩ (.int .i64 z)) base g cap (s.set m z) := by
  have h1 := (h.stored m (.int .i64 z)).1
  rw [← List.map_set] at h1
  unfold Row
  rw [List.length_set]
  exact h1
theorem row_to {W W' : World} {base g cap : Nat} {s : List Int} (h : Row W base g cap s) (hb : Below W.heap.size W W') : Row W' base g cap s := own_to h hb
theorem BxM.set {w W : World} {x : MT} (h : BxM w W x) {g m : Nat} (hg : w.heap.size < g) (v : Value) : BxM w (W.setCell ⟨g, m, none⟩ v) x := ⟨h.below.setCell (by show w.heap.size ≤ g; omega) _, h.box.far (by show g ≠ w.heap.size; omega) _⟩
end Go.Proofs.YtenmegkokclolaaDoor
