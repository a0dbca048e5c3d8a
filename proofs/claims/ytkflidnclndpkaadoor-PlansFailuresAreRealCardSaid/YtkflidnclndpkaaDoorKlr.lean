/- The law StripsRegressionIsExact: the walk. -/
import Derived.Test.YtkflidnclndpkaaDoorKac
namespace Go.Proofs.YtkflidnclndpkaaDoor
open Go.RowKit
set_option linter.unusedSimpArgs false
set_option linter.unusedVariables false
set_option maxRecDepth 100000

def boxS (g : Nat) (x : Tsk) : SP := ⟨fun W => TBox W g x, fun _ _ hb h => h.to hb h.lt⟩
def tskS (x : Tsk) : SP := ⟨fun W => TskIn W W.heap.size x, fun _ _ hb h => h.to hb hb.size⟩

theorem ckF_good {x : Tsk} {s : List Int} {op : Int} (h : (stF x s).1 = 0) (h0 : 0 ≤ op) (h1 : op < x.ops.length) : ckF x s [op] = (0, 0) := by
  unfold ckF
  rw [if_neg (by omega)]
  unfold spF
  rw [if_neg (by simp), if_pos]
  exact planB_good (fun j hj => by
    have : j = 0 := by simp at hj; exact hj
    subst this
    unfold stB
    exact decide_eq_true ⟨h0, h1⟩)
theorem ayF_good {x : Tsk} {s : List Int} {op : Int} (h : (stF x s).1 = 0) (h0 : 0 ≤ op) (h1 : op < x.ops.length) : ayF x s op = if subB (opn x op).pre s then (0, 0) else (11, op) := by
  unfold ayF
  rw [ckF_good h h0 h1]; rfl
theorem reB_good {x : Tsk} {s : List Int} {op : Int} (h : (stF x s).1 = 0) (h0 : 0 ≤ op) (h1 : op < x.ops.length) : reB x s op = disB s (opn x op).del := by
  unfold reB
  rw [ckF_good h h0 h1]; rfl
theorem op_val {x : Tsk} {n : Nat} (hv : Val x n) {op : Int} (h0 : 0 ≤ op) (h1 : op < x.ops.length) : OpS (opn x op) n ∧ disB (opn x op).add (opn x op).del = true :=
  ⟨(hv.ops op.toNat (by omega)).1, (hv.ops op.toNat (by omega)).2.1⟩
/-- A goal is true after an operator exactly if its regression is true before. -/
theorem re_exact {x : Tsk} {s goal : List Int} {op : Int} (hs : (stF x s).1 = 0) (hg : (stF x goal).1 = 0) (h0 : 0 ≤ op) (h1 : op < x.ops.length) :
    (reB x goal op && subB (reL x goal op) s) = (subB (opn x op).pre s && subB goal (ayL x s op)) := by
  obtain ⟨hv, hss⟩ := stF_val hs
  obtain ⟨_, hgg⟩ := stF_val hg
  obtain ⟨ho, hd⟩ := op_val hv h0 h1
  rw [disB_iff] at hd
  have e1 : reB x goal op = disB goal (opn x op).del := reB_good hg h0 h1
  have e2 : ∀ y, y ∈ regL x.n.toNat (opn x op).pre (opn x op).add goal ↔ y ∈ (opn x op).pre ∨ (y ∈ goal ∧ y ∉ (opn x op).add) := fun y => mem_aftL ho.pre hgg
  have e3 : ∀ y, y ∈ aftL x.n.toNat (opn x op).add (opn x op).del s ↔ y ∈ (opn x op).add ∨ (y ∈ s ∧ y ∉ (opn x op).del) := fun y => mem_aftL ho.add hss
  rw [Bool.eq_iff_iff, Bool.and_eq_true, Bool.and_eq_true, e1, disB_iff, subB_iff, subB_iff, subB_iff]
  constructor
  · rintro ⟨h2, h3⟩
    have hb : reB x goal op = true := by rw [e1, disB_iff]; exact h2
    unfold reL at h3
    rw [if_pos hb] at h3
    have hp : ∀ y ∈ (opn x op).pre, y ∈ s := fun y hy => h3 y ((e2 y).2 (.inl hy))
    refine ⟨hp, fun y hy => ?_⟩
    unfold ayL
    rw [ayF_good hs h0 h1, if_pos (subB_iff.2 hp), if_pos rfl, e3]
    by_cases ha : y ∈ (opn x op).add
    · exact .inl ha
    · exact .inr ⟨h3 y ((e2 y).2 (.inr ⟨hy, ha⟩)), h2 y hy⟩
  · rintro ⟨hp, h3⟩
    unfold ayL at h3
    rw [ayF_good hs h0 h1, if_pos (subB_iff.2 hp), if_pos rfl] at h3
    have hdis : ∀ y ∈ goal, y ∉ (opn x op).del := fun y hy hyd => by
      rcases (e3 y).1 (h3 y hy) with ha | ha
      · exact hd y ha hyd
      · exact ha.2 hyd
    have hb : reB x goal op = true := by rw [e1, disB_iff]; exact hdis
    refine ⟨hdis, fun y hy => ?_⟩
    unfold reL at hy
    rw [if_pos hb, e2] at hy
    rcases hy with hy | ⟨hy, ha⟩
    · exact hp y hy
    · rcases (e3 y).1 (h3 y hy) with h4 | h4
      · exact absurd h4 ha
      · exact h4.1

end Go.Proofs.YtkflidnclndpkaaDoor
