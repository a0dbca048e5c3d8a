/- Facts on a plan of two parts. -/
import Derived.Test.YtkflidnclndpkaaDoorKcp
namespace Go.Proofs.YtkflidnclndpkaaDoor
open Go.RowKit
set_option linter.unusedSimpArgs false
set_option linter.unusedVariables false
set_option maxRecDepth 100000

theorem ix_app1 {a b : List Int} {k : Nat} (h : k < a.length) : ix (a ++ b) k = ix a k := by simp [ix, List.getD, List.getElem?_append, h]
theorem ix_app2 (a b : List Int) (k : Nat) : ix (a ++ b) (a.length + k) = ix b k := by
  simp only [ix, List.getD]
  rw [List.getElem?_append_right (by omega), Nat.add_sub_cancel_left]
theorem planB_app {m : Nat} {a b : List Int} (h : planB m (a ++ b) = true) : planB m a = true ∧ planB m b = true := by
  refine ⟨planB_good fun j hj => ?_, planB_good fun j hj => ?_⟩
  · have := planB_at h (k := j) (by simp; omega)
    rw [ix_app1 hj] at this
    exact decide_eq_true this
  · have := planB_at h (k := a.length + j) (by simp; omega)
    rw [ix_app2] at this
    exact decide_eq_true this
theorem planB_join {m : Nat} {a b : List Int} (h : planB m a = true) (h2 : planB m b = true) : planB m (a ++ b) = true := by
  refine planB_good fun j hj => ?_
  by_cases e : j < a.length
  · have := planB_at h e
    rw [← ix_app1 (b := b) e] at this
    exact decide_eq_true this
  · obtain ⟨q, rfl⟩ := Nat.exists_eq_add_of_le (Nat.le_of_not_lt e)
    have := planB_at h2 (k := q) (by simp at hj; omega)
    rw [← ix_app2 a b q] at this
    exact decide_eq_true this
theorem runTo_app1 {x : Tsk} {n : Nat} {s a b : List Int} : ∀ k, k ≤ a.length → runTo x n s (a ++ b) k = runTo x n s a k
  | 0, _ => rfl
  | k + 1, h => by
    have ih := runTo_app1 (x := x) (n := n) (s := s) (a := a) (b := b) k (by omega)
    cases hr : runTo x n s a k with
    | none => rw [runTo_none hr _ (Nat.le_succ k), runTo_none (ih.trans hr) _ (Nat.le_succ k)]
    | some t => rw [runTo_step hr, runTo_step (ih.trans hr), ix_app1 (by omega)]
theorem runTo_app2 {x : Tsk} {n : Nat} {s a b t : List Int} (ht : runTo x n s a a.length = some t) : ∀ j, runTo x n s (a ++ b) (a.length + j) = runTo x n t b j
  | 0 => by rw [Nat.add_zero, runTo_app1 _ (Nat.le_refl _), ht]; rfl
  | j + 1 => by
    have ih := runTo_app2 (b := b) ht j
    rw [← Nat.add_assoc]
    cases hr : runTo x n t b j with
    | none => rw [runTo_none hr _ (Nat.le_succ j), runTo_none (ih.trans hr) _ (Nat.le_succ _)]
    | some u => rw [runTo_step hr, runTo_step (ih.trans hr), ix_app2]
theorem costTo_app1 {x : Tsk} {a b : List Int} : ∀ k, k ≤ a.length → costTo x (a ++ b) k = costTo x a k
  | 0, _ => rfl
  | k + 1, h => by rw [costTo, costTo, costTo_app1 k (by omega), ix_app1 (by omega)]
theorem costTo_app2 {x : Tsk} {a b : List Int} : ∀ j, costTo x (a ++ b) (a.length + j) = costTo x a a.length + costTo x b j
  | 0 => by rw [Nat.add_zero, costTo_app1 _ (Nat.le_refl _)]; simp [costTo]
  | j + 1 => by
    rw [← Nat.add_assoc, costTo, costTo, costTo_app2 j, ix_app2]; omega

theorem stF_next {x : Tsk} {s : List Int} (h : (stF x s).1 = 0) {plan t : List Int} {k : Nat} (hr : runTo x x.n.toNat s plan k = some t) : (stF x t).1 = 0 := by
  have hv := (stF_val h).1
  have ht := runTo_isS (stF_val h).2 k t hr
  unfold stF
  rw [if_neg (by simpa using (stF_zero h).2.1), if_pos]
  rw [hv.eq, setB_iff]
  simpa using ht
theorem plF_of_ck {x : Tsk} {s plan : List Int} (h : (ckF x s plan).1 = 0) : plF x plan = (0, 0) := by
  obtain ⟨_, h1, h2, h3⟩ := ckF_zero h
  unfold plF spF
  rw [if_neg (by simpa using (stF_zero h1).2.1), if_neg (by omega), if_pos h3]

/-- The end of what Play answers. -/
def endL (x : Tsk) (s plan : List Int) : List Int := rw_ (plyL x s plan) plan.length
theorem endL_run {x : Tsk} {s plan : List Int} (h : (plyF x s plan).1 = 0) : runTo x x.n.toNat s plan plan.length = some (endL x s plan) := plyL_at h (Nat.le_refl _)
/-- The first part can be executed, where the whole can. -/
theorem conc_first {x : Tsk} {s a b : List Int} (h : (plyF x s (a ++ b)).1 = 0) : (plyF x s a).1 = 0 := by
  obtain ⟨_, hc, t, ht⟩ := plyF_zero h
  obtain ⟨_, h1, h60, hp⟩ := ckF_zero hc
  obtain ⟨u, hu⟩ := runTo_le ht (k := a.length) (by simp)
  rw [runTo_app1 _ (Nat.le_refl _)] at hu
  rw [List.length_append] at h60
  rw [plyF_good (ck_split h1 (by omega) (planB_app hp).1) hu]
/-- Both parts can be executed, and the whole is not too long: it can be executed. -/
theorem conc_whole {x : Tsk} {s a b : List Int} (ha : (plyF x s a).1 = 0) (hb : (plyF x (endL x s a) b).1 = 0) (h60 : a.length + b.length ≤ 60) : (plyF x s (a ++ b)).1 = 0 := by
  obtain ⟨_, hc, _⟩ := plyF_zero ha
  obtain ⟨_, hcb, _⟩ := plyF_zero hb
  have hr := endL_run hb
  rw [← runTo_app2 (endL_run ha) b.length, ← List.length_append] at hr
  rw [plyF_good (ck_split (ckF_zero hc).2.1 (by rw [List.length_append]; exact h60) (planB_join (ckF_zero hc).2.2.2 (ckF_zero hcb).2.2.2)) hr]
/-- The whole can be executed: the second part leads on from where the first ends. -/
theorem conc_ok {x : Tsk} {s a b : List Int} (h : (plyF x s (a ++ b)).1 = 0) :
    plyF x (endL x s a) b = (0, 0) ∧ endL x s (a ++ b) = endL x (endL x s a) b ∧ plF x a = (0, 0) ∧ plF x b = (0, 0) ∧ plF x (a ++ b) = (0, 0) ∧ coM x (a ++ b) = coM x a + coM x b := by
  have ha := conc_first h
  obtain ⟨_, hc, _⟩ := plyF_zero h
  obtain ⟨_, h1, h60, hp⟩ := ckF_zero hc
  rw [List.length_append] at h60
  have hr := endL_run h
  rw [List.length_append, runTo_app2 (endL_run ha) b.length] at hr
  have hst := stF_next h1 (endL_run ha)
  have hcb := ck_split hst (plan := b) (by omega) (planB_app hp).2
  have hca := ck_split h1 (plan := a) (by omega) (planB_app hp).1
  have hb := plyF_good hcb hr
  have hb0 : (plyF x (endL x s a) b).1 = 0 := by rw [hb]
  have hr2 := endL_run hb0
  rw [hr] at hr2
  refine ⟨hb, by simpa using hr2, plF_of_ck hca, plF_of_ck hcb, plF_of_ck hc, ?_⟩
  unfold coM
  rw [plF_of_ck hca, plF_of_ck hcb, plF_of_ck hc, if_pos rfl, if_pos rfl, if_pos rfl, List.length_append, costTo_app2]
end Go.Proofs.YtkflidnclndpkaaDoor
