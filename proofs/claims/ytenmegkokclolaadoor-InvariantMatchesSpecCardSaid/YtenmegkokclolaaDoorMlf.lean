/- MultiState, Assigns and MultiHolds of the reference. -/
import Derived.Test.YtenmegkokclolaaDoorMul
namespace Go.Proofs.YtenmegkokclolaaDoor
open Go.RowKit
set_option linter.unusedSimpArgs false
set_option linter.unusedVariables false
set_option maxRecDepth 100000


theorem in_q (x a b : Int) (w : World) : Calls Tryd.prog 18 #[.int .i64 x, .int .i64 a, .int .i64 b] w fun e w' => e = .returned (.bool (inB x a b)) ∧ w' = w := (in_any x a b w).mono fun _ _ h => ⟨h.1, h.2.symm⟩
theorem st_bad {S s : List Int} {k : Nat} (hk : k < s.length) (h : st1 S s k = false) : msB S s = false := by unfold msB; rw [allB_bad hk h]; simp
theorem st_good {S s : List Int} (e : s.length = S.length) (h : ∀ k, k < s.length → st1 S s k = true) : msB S s = true := by unfold msB; rw [allB_iff.2 h, decide_eq_true e]; rfl
theorem as1_of {S : List Int} {l : List Asg} {k : Nat} {a b : Bool} (h : as0 S l k = a) (h2 : as2 l k = b) : as1 S l k = (a && !b) := by unfold as1; rw [h, h2]
theorem as_bad {S : List Int} {l : List Asg} {k : Nat} (hk : k < l.length) (h : as1 S l k = false) : asB S l = false := allB_bad hk h
theorem as_good {S : List Int} {l : List Asg} (h : ∀ k, k < l.length → as1 S l k = true) : asB S l = true := allB_iff.2 h
theorem hold_bad {s : List Int} {l : List Asg} {k : Nat} (hk : k < l.length) (h : h1B s l k = false) : holdB s l = false := allB_bad hk h
theorem hold_good {s : List Int} {l : List Asg} (h : ∀ k, k < l.length → h1B s l k = true) : holdB s l = true := allB_iff.2 h
end Go.Proofs.YtenmegkokclolaaDoor
