/- Facts on the parts of a plan, for the law StripsPlansMatchSpec. -/
import Derived.Test.YtkflidnclndpkaaDoorKmb
namespace Go.Proofs.YtkflidnclndpkaaDoor
open Go.RowKit
set_option linter.unusedSimpArgs false
set_option linter.unusedVariables false
set_option maxRecDepth 100000

theorem take_len {l : List Int} {k : Nat} (h : k ≤ l.length) : (l.take k).length = k := by rw [List.length_take]; omega
theorem ix_take {l : List Int} {k j : Nat} (h : j < k) : ix (l.take k) j = ix l j := by
  simp only [ix, List.getD]
  rw [List.getElem?_take_of_lt h]
theorem planB_take {m : Nat} {plan : List Int} (h : planB m plan = true) (k : Nat) : planB m (plan.take k) = true := by
  refine (planB_app (a := plan.take k) (b := plan.drop k) ?_).1
  rw [List.take_append_drop]
  exact h
theorem runTo_take {x : Tsk} {n : Nat} {s plan : List Int} {k : Nat} (h : k ≤ plan.length) : runTo x n s (plan.take k) k = runTo x n s plan k := by
  have := runTo_app1 (x := x) (n := n) (s := s) (a := plan.take k) (b := plan.drop k) k (by rw [take_len h]; exact Nat.le_refl _)
  rw [List.take_append_drop] at this
  exact this.symm
theorem lst_take {w : World} {B : Nat} {a : Option Addr} {c : Nat} {l : List Int} (h : Lst w B a c l) {k : Nat} (hk : k ≤ l.length) : Lst w B a c (l.take k) := by
  refine ⟨fun h0 => ?_, by rw [take_len hk]; exact Nat.le_trans hk h.le, h.max⟩
  rw [take_len hk] at h0
  obtain ⟨b, o, e, hb, hc⟩ := h.nums (by omega)
  refine ⟨b, o, e, hb, fun j hj => ?_⟩
  rw [take_len hk] at hj
  rw [ix_take hj]
  exact hc j (by omega)
/-- Ends of the first k steps. -/
theorem ends_take (x : Tsk) (n : Nat) (hv : Val x n) (a2 a3 : Option Addr) (c2 c3 : Nat) (s plan : List Int) (hpl : planB x.ops.length plan = true) (k : Nat) (hk : k ≤ plan.length) (w : World) (hX : TskIn w w.heap.size x) (hS : Lst w w.heap.size a2 c2 s) (hP : Lst w w.heap.size a3 c3 plan) :
    Calls Tryd.prog 28 #[.agg #[.int .i64 x.n, .slice x.ai x.init.length x.ci, .slice x.ag x.goal.length x.cg, .slice x.ao x.ops.length x.co], .slice a2 s.length c2, .slice a3 k c3] w (EndsPost w (runTo x n s plan k)) := by
  have h := ends_any x n hv a2 a3 c2 c3 s (plan.take k) (planB_take hpl k) w hX hS (lst_take hP hk)
  rw [take_len hk, runTo_take hk] at h
  exact h
theorem seqN_stop {x : Tsk} {n : Nat} {s plan : List Int} {k : Nat} (h0 : ∃ t, runTo x n s plan k = some t) (h1 : runTo x n s plan (k + 1) = none) : ∀ (f i : Nat), i ≤ k + 1 → k + 1 ≤ i + f → (seqN x n s plan f i).length = k + 1 - i
  | 0, i, hi, hf => by simp [seqN]; omega
  | f + 1, i, hi, hf => by
    by_cases e : i = k + 1
    · subst e
      rw [seqN_none h1]
      simp
    · obtain ⟨t, ht⟩ := h0
      obtain ⟨u, hu⟩ := runTo_le ht (k := i) (by omega)
      rw [seqN_some hu, List.length_cons, seqN_stop ⟨t, ht⟩ h1 f (i + 1) (by omega) (by omega)]
      omega
/-- The first step that cannot be executed is the fault of Play. -/
theorem plyF_stop {x : Tsk} {s plan : List Int} {k : Nat} (hc : (ckF x s plan).1 = 0) (hk : k < plan.length) (h0 : (runTo x x.n.toNat s plan k).isSome = true) (h1 : runTo x x.n.toNat s plan (k + 1) = none) : plyF x s plan = (11, (k : Int)) := by
  unfold plyF
  rw [if_neg (by simpa using hc), runTo_none h1 _ (by omega)]
  unfold seqL
  rw [seqN_stop (Option.isSome_iff_exists.1 h0) h1 (plan.length + 1) 0 (by omega) (by omega)]
  simp
theorem plyF_end {x : Tsk} {s plan : List Int} (hc : (ckF x s plan).1 = 0) (h0 : (runTo x x.n.toNat s plan plan.length).isSome = true) : plyF x s plan = (0, 0) := by
  obtain ⟨t, ht⟩ := Option.isSome_iff_exists.1 h0
  exact plyF_good hc ht
theorem plyF_ck {x : Tsk} {s plan : List Int} (hc : (ckF x s plan).1 ≠ 0) : plyF x s plan = ckF x s plan := by
  unfold plyF
  rw [if_pos hc]
end Go.Proofs.YtkflidnclndpkaaDoor
