/- The law StripsPlansConcatenate: the walk. -/
import Derived.Test.YtkflidnclndpkaaDoorKiq
import Derived.Deep.CutRange
namespace Go.Proofs.YtkflidnclndpkaaDoor
open Go.RowKit
set_option linter.unusedSimpArgs false
set_option linter.unusedVariables false
set_option maxRecDepth 100000

theorem coM_bd (x : Tsk) (plan : List Int) : 0 ≤ coM x plan ∧ coM x plan ≤ 6000 := by
  unfold coM
  split
  · rename_i h
    obtain ⟨hv, h60, hp⟩ := plF_val h
    have := costTo_bd hv hp plan.length (Nat.le_refl _)
    omega
  · omega
theorem Fresh2.r2 {W W2 : World} {base : Nat} {a : Option Addr} {c : Nat} {ls : List (List Int)} (h : Fresh2 W base (.slice a ls.length c) ls) (hw : ∀ b, base ≤ b → b < W.heap.size → W2.heap[b]? = W.heap[b]?) (hs : W.heap.size ≤ W2.heap.size) : R2 W2 a c ls := by
  obtain ⟨a', c', e, h1⟩ := (h W2 hw hs).set
  injection e with e1 e2 e3
  subst e1 e3
  exact h1
theorem Fresh2.alloc {W : World} {base : Nat} {a : Option Addr} {c : Nat} {ls : List (List Int)} (h : Fresh2 W base (.slice a ls.length c) ls) (o : Obj) : R2 (W.alloc o) a c ls :=
  h.r2 (fun b _ hb => ((Below.refl W.heap.size W).alloc (Nat.le_refl _) o).block b hb) (by simp)
theorem Fresh2.set2 {W : World} {base : Nat} {a : Option Addr} {c : Nat} {ls : List (List Int)} (h : Fresh2 W base (.slice a ls.length c) ls) {g : Nat} (hg : g < base) (u v : Value) : R2 ((W.setCell ⟨g, 0, none⟩ u).setCell ⟨g, 1, none⟩ v) a c ls :=
  h.r2 (fun b hb _ => by rw [Below.heap_setCell _ _ _ _ (by show b ≠ g; omega), Below.heap_setCell _ _ _ _ (by show b ≠ g; omega)]) (by simp)
theorem have_two {G : Prop} {V wY : World} {g : Nat} {u v : Value} (hb : Below V.heap.size V wY) (h : Two V g u v) (k : Two wY g u v → G) : G := k (two_to h hb)
theorem last6 {P1 P2 P3 P4 P5 Q : Prop} (h : P1 ∧ P2 ∧ P3 ∧ P4 ∧ P5 ∧ Q) : Q := h.2.2.2.2.2
end Go.Proofs.YtkflidnclndpkaaDoor
