/- MultiFault of the reference. -/
import Derived.Test.YtenmegkokclolaaDoorMlf
namespace Go.Proofs.YtenmegkokclolaaDoor
open Go.RowKit
set_option linter.unusedSimpArgs false
set_option linter.unusedVariables false
set_option maxRecDepth 100000

/-- What a call with a task has laid: its box and a fault. -/
structure FrM (w W : World) (x : MT) (u v : Int) : Prop where
  below : Below w.heap.size w W
  box : MBox W w.heap.size x
  two : Two W (w.heap.size + 1) (.int .i64 u) (.int .i64 v)
theorem FrM.to {w W W' : World} {x : MT} {u v : Int} (h : FrM w W x u v) (hb : Below W.heap.size W W') : FrM w W' x u v :=
  ⟨h.below.trans (hb.mono h.below.size), h.box.to hb h.box.lt, two_to h.two hb⟩
theorem frM_new (w : World) (x : MT) (t t' : TypeId) : FrM w ((w.alloc (.cells #[.slice x.az x.sizes.length x.cz, .slice x.ai x.init.length x.ci, .slice x.ag x.goal.length x.cg, .slice x.ao x.ops.length x.co] t)).alloc (.cells #[.int .i64 0, .int .i64 0] t')) x 0 0 := by
  refine ⟨by go_grown, (mbox_new w x t).to ((Below.refl _ _).alloc (Nat.le_refl _) _) (by simp), ?_⟩
  have := two_new (w.alloc (.cells #[.slice x.az x.sizes.length x.cz, .slice x.ai x.init.length x.ci, .slice x.ag x.goal.length x.cg, .slice x.ao x.ops.length x.co] t)) (.int .i64 0) (.int .i64 0) t'
  simpa using this
/-- A box with three cells. -/
structure Tri (w : World) (g : Nat) (u v y : Value) : Prop where
  lt : g < w.heap.size
  c0 : w.cell? ⟨g, 0, none⟩ = some u
  c1 : w.cell? ⟨g, 1, none⟩ = some v
  c2 : w.cell? ⟨g, 2, none⟩ = some y
theorem Tri.to {w w' : World} {g : Nat} {u v y : Value} (h : Tri w g u v y) (hb : Below w.heap.size w w') : Tri w' g u v y :=
  ⟨Nat.lt_of_lt_of_le h.lt hb.size, (hb.cell (p := ⟨g, 0, none⟩) h.lt).trans h.c0, (hb.cell (p := ⟨g, 1, none⟩) h.lt).trans h.c1, (hb.cell (p := ⟨g, 2, none⟩) h.lt).trans h.c2⟩
theorem tri_new (w : World) (u v y : Value) (t : TypeId) : Tri (w.alloc (.cells #[u, v, y] t)) w.heap.size u v y := ⟨by simp, by simp, by simp, by simp⟩

theorem szB_good {S : List Int} (h : ∀ j, j < S.length → inB (ix S j) 1 6 = true) : szB S = true := allB_iff.2 h
theorem szB_bad {S : List Int} {k : Nat} (hk : k < S.length) (h : inB (ix S k) 1 6 = false) : szB S = false := allB_bad hk h
theorem szB_ok {S : List Int} (h18 : 1 ≤ S.length ∧ S.length ≤ 8) (h : szB S = true) : SzOk S := ⟨h18.1, h18.2, fun k hk => inB_iff.1 (allB_iff.1 h k hk)⟩
end Go.Proofs.YtenmegkokclolaaDoor
