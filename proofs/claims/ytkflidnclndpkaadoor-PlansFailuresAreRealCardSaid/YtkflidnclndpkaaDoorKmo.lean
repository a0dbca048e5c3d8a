/- The law StripsMoreFactsKeepPlans: the walk. -/
import Derived.Test.YtkflidnclndpkaaDoorKpz
namespace Go.Proofs.YtkflidnclndpkaaDoor
open Go.RowKit
set_option linter.unusedSimpArgs false
set_option linter.unusedVariables false
set_option maxRecDepth 100000

/-- A slice of rows. -/
structure R2 (W : World) (a : Option Addr) (c : Nat) (ls : List (List Int)) : Prop where
  rws : Rws W W.heap.size a ls
  le : ls.length ≤ c
  max : c ≤ maxLen
theorem R2.to {W W' : World} {a : Option Addr} {c : Nat} {ls : List (List Int)} (h : R2 W a c ls) (hb : Below W.heap.size W W') : R2 W' a c ls := ⟨h.rws.to hb hb.size, h.le, h.max⟩
theorem SliceOf2.set {W : World} {v : Value} {ls : List (List Int)} (h : SliceOf2 W v ls) : ∃ a c, v = .slice a ls.length c ∧ R2 W a c ls := by
  obtain ⟨a, c, rfl, h1, h2, h3⟩ := h
  exact ⟨a, c, rfl, h1, h2, h3⟩
theorem Fresh2.set {W : World} {base : Nat} {v : Value} {ls : List (List Int)} (h : Fresh2 W base v ls) : ∃ a c, v = .slice a ls.length c ∧ R2 W a c ls := h.slice.set
def r2S (a : Option Addr) (c : Nat) (ls : List (List Int)) : SP := ⟨fun W => R2 W a c ls, fun _ _ hb h => h.to hb⟩
/-- The operators before k delete nothing. -/
def NoDel (x : Tsk) (k : Nat) : Prop := ∀ j, j < k → (opr x.ops j).del = []
theorem NoDel.succ {x : Tsk} {k : Nat} (h : NoDel x k) (h0 : (opr x.ops k).del = []) : NoDel x (k + 1) := fun j hj => by
  by_cases e : j = k
  · subst e; exact h0
  · exact h j (by omega)
theorem ply_len40 {x : Tsk} {s plan : List Int} (h : (plyF x s plan).1 = 0) : x.ops.length ≤ 40 := (ck_val (plyF_zero h).2.1).1.len

end Go.Proofs.YtkflidnclndpkaaDoor
