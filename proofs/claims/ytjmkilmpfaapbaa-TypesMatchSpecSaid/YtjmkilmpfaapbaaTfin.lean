/- What stands at a return: a fault in a cell of its own, alone or behind another result. -/
import Derived.Test.YtjmkilmpfaapbaaTmem
namespace Go.Proofs.Ytjmkilmpfaapbaa
open Go.RowKit
set_option linter.unusedSimpArgs false
set_option linter.unusedVariables false
set_option maxRecDepth 100000

theorem two_new (w : World) (u v : Value) (t : TypeId) : Two (w.alloc (.cells #[u, v] t)) w.heap.size u v := ⟨by simp, by simp, by simp, by simp, by simp⟩
theorem one_new (w : World) (u : Value) (t : TypeId) : One (w.alloc (.cells #[u] t)) w.heap.size u := ⟨by simp, by simp, by simp⟩
section
variable {w w' : World} {g : Nat} {x y : Value}
theorem two_to (h : Two w g x y) (hb : Below w.heap.size w w') : Two w' g x y := h.to hb h.lt
theorem one_to (h : One w g x) (hb : Below w.heap.size w w') : One w' g x := h.to hb h.lt
theorem Two.alloc (h : Two w g x y) (o : Obj) : Two (w.alloc o) g x y := two_to h ((Below.refl _ _).alloc (Nat.le_refl _) o)
theorem One.alloc (h : One w g x) (o : Obj) : One (w.alloc o) g x := one_to h ((Below.refl _ _).alloc (Nat.le_refl _) o)
theorem twoN (h : Two w g x y) (n : Nat) : Two (w.drewN n) g x y := ⟨h.lt, h.fst, h.snd, h.ffst, h.fsnd⟩
theorem oneN (h : One w g x) (n : Nat) : One (w.drewN n) g x := ⟨h.lt, h.fst, h.ffst⟩
theorem two1 (h : Two w g x y) : Two w.drew g x y := ⟨h.lt, h.fst, h.snd, h.ffst, h.fsnd⟩
theorem one1 (h : One w g x) : One w.drew g x := ⟨h.lt, h.fst, h.ffst⟩
theorem Two.set0 (h : Two w g x y) (u : Value) : Two (w.setCell ⟨g, 0, none⟩ u) g u y := by
  refine ⟨by simpa using h.lt, World.cell?_setCell_same' _ _ _ (by rw [h.fst]; rfl), ?_, ?_, ?_⟩
  · rw [World.cell?_setCell_other _ _ _ _ (by simp)]; exact h.snd
  · rw [World.frozen?_setCell]; exact h.ffst
  · rw [World.frozen?_setCell]; exact h.fsnd
theorem Two.set1 (h : Two w g x y) (u : Value) : Two (w.setCell ⟨g, 1, none⟩ u) g x u := by
  refine ⟨by simpa using h.lt, ?_, World.cell?_setCell_same' _ _ _ (by rw [h.snd]; rfl), ?_, ?_⟩
  · rw [World.cell?_setCell_other _ _ _ _ (by simp)]; exact h.fst
  · rw [World.frozen?_setCell]; exact h.ffst
  · rw [World.frozen?_setCell]; exact h.fsnd
/-- Block g begins with two cells that may be written. -/
def Pair (w : World) (g : Nat) : Prop := ∃ x y, Two w g x y
theorem Two.pair (h : Two w g x y) : Pair w g := ⟨x, y, h⟩
theorem Pair.alloc (h : Pair w g) (o : Obj) : Pair (w.alloc o) g := by
  obtain ⟨x, y, h⟩ := h
  exact ⟨x, y, h.alloc o⟩
theorem Pair.far (h : Pair w g) {p : Addr} (hp : p.block ≠ g) (u : Value) : Pair (w.setCell p u) g := by
  obtain ⟨x, y, h⟩ := h
  exact ⟨x, y, h.far hp u⟩
theorem Pair.drew (h : Pair w g) : Pair w.drew g := by
  obtain ⟨x, y, h⟩ := h
  exact ⟨x, y, two1 h⟩
theorem Pair.drewN (h : Pair w g) (n : Nat) : Pair (w.drewN n) g := by
  obtain ⟨x, y, h⟩ := h
  exact ⟨x, y, twoN h n⟩
theorem Pair.set (h : Pair w g) (u v : Value) : Two ((w.setCell ⟨g, 0, none⟩ u).setCell ⟨g, 1, none⟩ v) g u v := by
  obtain ⟨x, y, h⟩ := h
  exact h.set u v
theorem belowN {B : Nat} {a : World} (h : Below B a w) (n : Nat) : Below B a (w.drewN n) := ⟨h.os, h.tape, h.output, h.size, h.block⟩
end

theorem load_fault (w : World) (g : Nat) (x y : Value) (h : Two w g x y) : (loadVar 26 ⟨g, 0, none⟩).run Try.prog w = .ok (.agg #[x, y]) w := by
  obtain ⟨_, h0, h1, _, _⟩ := h
  simp [go_sem, h0, h1]
theorem load_int (w : World) (g : Nat) (x : Value) (h : One w g x) : (loadVar 3 ⟨g, 0, none⟩).run Try.prog w = .ok x w := by
  obtain ⟨_, h0, _⟩ := h
  simp [go_sem, h0]

section
variable {fn : Func} {R : Ending → World → Prop} {tmps : Array Value} {W : World} {s t : Tmp} {g g2 : Nat} {x y z : Value}
theorem post_fault (hres : fn.results = #[.cell s 26]) (ht : tmps.getD s undef = .pointer (some ⟨g, 0, none⟩)) (hT : Two W g x y) (hR : R (.returned (.agg #[x, y])) W) :
    bodyPost Try.prog fn R .ret { tmps := tmps, defers := [] } W := by
  refine bodyPost_ret (v := .agg #[x, y]) ?_ rfl hR
  simp only [results, hres]
  rw [Array.getD_eq_getD_getElem?] at ht
  simp [go_sem, ht, hT.fst, hT.snd]
theorem post_with_fault (hres : fn.results = #[.tmp t, .cell s 26]) (ht : tmps.getD s undef = .pointer (some ⟨g, 0, none⟩)) (hT : Two W g x y) (hR : R (.returned (.tuple #[tmps.getD t undef, .agg #[x, y]])) W) :
    bodyPost Try.prog fn R .ret { tmps := tmps, defers := [] } W := by
  refine bodyPost_ret (v := .tuple #[tmps.getD t undef, .agg #[x, y]]) ?_ rfl hR
  simp only [results, hres]
  rw [Array.getD_eq_getD_getElem?] at ht
  simp [go_sem, ht, hT.fst, hT.snd]
theorem post_int_fault (hres : fn.results = #[.cell t 3, .cell s 26]) (hz : tmps.getD t undef = .pointer (some ⟨g2, 0, none⟩)) (ht : tmps.getD s undef = .pointer (some ⟨g, 0, none⟩)) (hO : One W g2 z) (hT : Two W g x y)
    (hR : R (.returned (.tuple #[z, .agg #[x, y]])) W) : bodyPost Try.prog fn R .ret { tmps := tmps, defers := [] } W := by
  refine bodyPost_ret (v := .tuple #[z, .agg #[x, y]]) ?_ rfl hR
  simp only [results, hres]
  rw [Array.getD_eq_getD_getElem?] at ht hz
  simp [go_sem, hz, ht, hT.fst, hT.snd, hO.fst]
end
end Go.Proofs.Ytjmkilmpfaapbaa
