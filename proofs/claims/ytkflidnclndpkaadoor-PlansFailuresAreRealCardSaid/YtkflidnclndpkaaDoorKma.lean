/- The law StripsMatchesSpec: the walk where the state has a fault. -/
import Derived.Test.YtkflidnclndpkaaDoorKcn
namespace Go.Proofs.YtkflidnclndpkaaDoor
open Go.RowKit
set_option linter.unusedSimpArgs false
set_option linter.unusedVariables false
set_option maxRecDepth 100000

theorem last5 {P1 P2 P3 P4 Q : Prop} (h : P1 ∧ P2 ∧ P3 ∧ P4 ∧ Q) : Q := h.2.2.2.2
theorem ints_nil (a : Option Addr) (c : Nat) (l : List Int) (h : l = []) (w : World) (hL : Lst w w.heap.size a c l) :
    Calls Tryd.prog 14 #[.slice a l.length c, .slice none 0 0] w fun e w' => e = .returned (.bool true) ∧ Below w.heap.size w w' := by
  subst h
  have := ints_any a none c 0 [] [] w hL.nums (nums_nil _ _ _) hL.len (by simp)
  rw [eqL_self] at this
  exact this
theorem ints_same (a a' : Option Addr) (c c' : Nat) (l l' : List Int) (h : l = l') (w : World) (hL : Lst w w.heap.size a c l) (hL' : Lst w w.heap.size a' c' l') :
    Calls Tryd.prog 14 #[.slice a l.length c, .slice a' l'.length c'] w fun e w' => e = .returned (.bool true) ∧ Below w.heap.size w w' := by
  subst h
  have := ints_any a a' c c' l l w hL.nums hL'.nums hL.len hL'.len
  rw [eqL_self] at this
  exact this
theorem ck_bad {x : Tsk} {s plan : List Int} (h : (stF x s).1 ≠ 0) : ckF x s plan = stF x s := by
  unfold ckF
  rw [if_pos h]
theorem ay_ck {x : Tsk} {s : List Int} {op : Int} (h : (ckF x s [op]).1 ≠ 0) : ayF x s op = ckF x s [op] ∧ ayL x s op = [] ∧ reB x s op = false ∧ reL x s op = [] := by
  have e : ayF x s op = ckF x s [op] := by
    unfold ayF
    rw [if_pos h]
  have e2 : reB x s op = false := by
    unfold reB
    rw [decide_eq_false h]; rfl
  refine ⟨e, ayL_bad (by rw [e]; exact h), e2, ?_⟩
  unfold reL
  rw [e2]; rfl
theorem appM_bad {x : Tsk} {s : List Int} (h : (stF x s).1 ≠ 0) : appM x s = [] := by
  unfold appM
  rw [if_neg h]
end Go.Proofs.YtkflidnclndpkaaDoor
