/- The law StripsRegressionIsExact: the walk. -/
import Derived.Test.YtdgolaegbdadlaaDoorKac
namespace Go.Proofs.YtdgolaegbdadlaaDoor
open Go.RowKit
set_option linter.unusedSimpArgs false
set_option linter.unusedVariables false
set_option maxRecDepth 100000

def boxS (g : Nat) (x : Tsk) : SP := ⟨fun W => TBox W g x, fun _ _ hb h => h.to hb h.lt⟩
def tskS (x : Tsk) : SP := ⟨fun W => TskIn W W.heap.size x, fun _ _ hb h => h.to hb hb.size⟩

theorem ckF_good {x : Tsk} {s : List Int} {op : Int} (h : (stF x s).1 = 0) (h0 : 0 ≤ op) (h1 : op < x.ops.length) : ckF x s [op] = (0, 0) := by
  unfold ckF
  rw [if_neg (by omega)]
  unfold spF
  rw [if_neg (by simp), if_pos]
  exact planB_good (fun j hj => by
    have : j = 0 := by simp at hj; exact hj
    subst this
    unfold stB
    exact decide_eq_true ⟨h0, h1⟩)
theorem ayF_good {x : Tsk} {s : List Int} {op : Int} (h : (stF x s).1 = 0) (h0 : 0 ≤ op) (h1 : op < x.ops.length) : ayF x s op = if subB (opn x op).pre s then (0, 0) else (11, op) := by
  unfold ayF
  rw [ckF_good h h0 h1]; rfl
theorem reB_good {x : Tsk} {s : List Int} {op : Int} (h : (stF x s).1 = 0) (h0 : 0 ≤ op) (h1 : op < x.ops.length) : reB x s op = disB s (opn x op).del := by
  unfold reB
  rw [ckF_good h h0 h1]; rfl
theorem op_val {x : Tsk} {n : Nat} (hv : Val x n) {op : Int} (h0 : 0 ≤ op) (h1 : op < x.ops.length) : OpS (opn x op) n ∧ disB (opn x op).add (opn x op).del = true :=
  ⟨(hv.ops op.toNat (by omega)).1, (hv.ops op.toNat (by omega)).2.1⟩
/-- A goal is true after an operator exactly if its regression is true before. -/
theorem re_exact {x : Tsk} {s goal : List Int} {op : Int} (hs : (stF x s).1 = 0) (hg : (stF x goal).1 = 0) (h0 : 0 ≤ op) (h1 : op < x.ops.length) :
    (reB x goal op && subB (reL x goal op) s) = (subB (opn x op).pre s && subB goal (ayL x s op)) := by
  obtain ⟨hv, hss⟩ := stF_val hs
  obtain ⟨_, hgg⟩ := stF_val hg
  obtain ⟨ho, hd⟩ := op_val hv h0 h1
  rw [disB_iff] at hd
  have e1 : reB x goal op = disB goal (opn x op).del := reB_good hg h0 h1
  have e2 : ∀ y, y ∈ regL x.n.toNat (opn x op).pre (opn x op).add goal ↔ y ∈ (opn x op).pre ∨ (y ∈ goal ∧ y ∉ (opn x op).add) := fun y => mem_aftL ho.pre hgg
  have e3 : ∀ y, y ∈ aftL x.n.toNat (opn x op).add (opn x op).del s ↔ y ∈ (opn x op).add ∨ (y ∈ s ∧ y ∉ (opn x op).del) := fun y => mem_aftL ho.add hss
  rw [Bool.eq_iff_iff, Bool.and_eq_true, Bool.and_eq_true, e1, disB_iff, subB_iff, subB_iff, subB_iff]
  constructor
  · rintro ⟨h2, h3⟩
    have hb : reB x goal op = true := by rw [e1, disB_iff]; exact h2
    unfold reL at h3
    rw [if_pos hb] at h3
    have hp : ∀ y ∈ (opn x op).pre, y ∈ s := fun y hy => h3 y ((e2 y).2 (.inl hy))
    refine ⟨hp, fun y hy => ?_⟩
    unfold ayL
    rw [ayF_good hs h0 h1, if_pos (subB_iff.2 hp), if_pos rfl, e3]
    by_cases ha : y ∈ (opn x op).add
    · exact .inl ha
    · exact .inr ⟨h3 y ((e2 y).2 (.inr ⟨hy, ha⟩)), h2 y hy⟩
  · rintro ⟨hp, h3⟩
    unfold ayL at h3
    rw [ayF_good hs h0 h1, if_pos (subB_iff.2 hp), if_pos rfl] at h3
    have hdis : ∀ y ∈ goal, y ∉ (opn x op).del := fun y hy hyd => by
      rcases (e3 y).1 (h3 y hy) with ha | ha
      · exact hd y ha hyd
      · exact ha.2 hyd
    have hb : reB x goal op = true := by rw [e1, disB_iff]; exact hdis
    refine ⟨hdis, fun y hy => ?_⟩
    unfold reL at hy
    rw [if_pos hb, e2] at hy
    rcases hy with hy | ⟨hy, ha⟩
    · exact hp y hy
    · rcases (e3 y).1 (h3 y hy) with h4 | h4
      · exact absurd h4 ha
      · exact h4.1

set_option maxHeartbeats 8000000 in
theorem regressionIsExact_any (x : Tsk) (a2 a3 : Option Addr) (c2 c3 : Nat) (s goal : List Int) (op : Int) (w : World) (hX : TskIn w w.heap.size x) (hS : Lst w w.heap.size a2 c2 s) (hG : Lst w w.heap.size a3 c3 goal) (hT : TabIn w) :
    Calls Tryd.prog 6 #[.agg #[.int .i64 x.n, .slice x.ai x.init.length x.ci, .slice x.ag x.goal.length x.cg, .slice x.ao x.ops.length x.co], .slice a2 s.length c2, .slice a3 goal.length c3, .int .i64 op] w fun e w' => e = .returned (.bool true) ∧ Below w.heap.size w w' := by
  have hol := hX.len
  unfold maxLen at hol
  have hP := Lib.hid (Alive.cons (boxS w.heap.size x) (tbox_new w x 25) ((Alive.cons (tskS x) hX (Alive.cons (lstS a2 c2 s) hS (Alive.cons (lstS a3 c3 goal) hG (Alive.cons tabS hT (Alive.cons (belS w) (Below.refl _ w) (Alive.nil w)))))).to ((Below.refl _ _).alloc (Nat.le_refl _) (.cells #[.int .i64 x.n, .slice x.ai x.init.length x.ci, .slice x.ag x.goal.length x.cg, .slice x.ao x.ops.length x.co] 25))))
  clear hX hS hG hT
  have hfld := run_code
  by_cases h1 : (stF x s).1 = 0
  case neg =>
    have hne : ((stF x s).1 != 0) = true := by simpa using h1
    clear h1
    go_enter Tryd.func6, Tryd.ntmps6
    go_wp2_with (first | (go_at_call 10; have hTb := Lib.hid (show TabIn _ from hP.out tabS (by simp)); (with_reducible refine (acts_any _ hTb.out).mono ?_); rintro e w1 ⟨rfl, hb⟩; have hP := Lib.hid (hP.out.to hb); clear hb; obtain ⟨_, t0, t1, t2, t3⟩ := (show TBox _ _ x from hP.out (boxS w.heap.size x) (by simp))) | (go_at_call 9; have hTk := Lib.hid (show TskIn _ _ x from hP.out (tskS x) (by simp)); have hLs := Lib.hid (show Lst _ _ a2 c2 s from hP.out (lstS a2 c2 s) (by simp)); (with_reducible refine (stateFault_any x a2 c2 s _ hTk.out hLs.out).mono ?_); rintro e w1 ⟨rfl, hb⟩; have hP := Lib.hid (hP.out.to hb); clear hb; obtain ⟨_, t0, t1, t2, t3⟩ := (show TBox _ _ x from hP.out (boxS w.heap.size x) (by simp))))
    go_ret
    exact ⟨rfl, hP.out (belS w) (by simp)⟩
  have hne1 : ((stF x s).1 != 0) = false := by simpa using h1
  by_cases h2 : (stF x goal).1 = 0
  case neg =>
    have hne : ((stF x goal).1 != 0) = true := by simpa using h2
    clear h1 h2
    go_enter Tryd.func6, Tryd.ntmps6
    go_wp2_with (first | (go_at_call 10; have hTb := Lib.hid (show TabIn _ from hP.out tabS (by simp)); (with_reducible refine (acts_any _ hTb.out).mono ?_); rintro e w1 ⟨rfl, hb⟩; have hP := Lib.hid (hP.out.to hb); clear hb; obtain ⟨_, t0, t1, t2, t3⟩ := (show TBox _ _ x from hP.out (boxS w.heap.size x) (by simp))) | (go_at_call 9; have hTk := Lib.hid (show TskIn _ _ x from hP.out (tskS x) (by simp)); have hLs := Lib.hid (show Lst _ _ a2 c2 s from hP.out (lstS a2 c2 s) (by simp)); (with_reducible refine (stateFault_any x a2 c2 s _ hTk.out hLs.out).mono ?_); rintro e w1 ⟨rfl, hb⟩; have hP := Lib.hid (hP.out.to hb); clear hb; obtain ⟨_, t0, t1, t2, t3⟩ := (show TBox _ _ x from hP.out (boxS w.heap.size x) (by simp))) | (go_at_call 9; have hTk := Lib.hid (show TskIn _ _ x from hP.out (tskS x) (by simp)); have hLg := Lib.hid (show Lst _ _ a3 c3 goal from hP.out (lstS a3 c3 goal) (by simp)); (with_reducible refine (stateFault_any x a3 c3 goal _ hTk.out hLg.out).mono ?_); rintro e w1 ⟨rfl, hb⟩; have hP := Lib.hid (hP.out.to hb); clear hb; obtain ⟨_, t0, t1, t2, t3⟩ := (show TBox _ _ x from hP.out (boxS w.heap.size x) (by simp))))
    go_ret
    exact ⟨rfl, hP.out (belS w) (by simp)⟩
  have hne2 : ((stF x goal).1 != 0) = false := by simpa using h2
  cases hi : inB op 0 ((x.ops.length : Int) - 1)
  case false =>
    clear h1 h2
    go_enter Tryd.func6, Tryd.ntmps6
    go_wp2_with (first | (go_at_call 10; have hTb := Lib.hid (show TabIn _ from hP.out tabS (by simp)); (with_reducible refine (acts_any _ hTb.out).mono ?_); rintro e w1 ⟨rfl, hb⟩; have hP := Lib.hid (hP.out.to hb); clear hb; obtain ⟨_, t0, t1, t2, t3⟩ := (show TBox _ _ x from hP.out (boxS w.heap.size x) (by simp))) | (go_at_call 9; have hTk := Lib.hid (show TskIn _ _ x from hP.out (tskS x) (by simp)); have hLs := Lib.hid (show Lst _ _ a2 c2 s from hP.out (lstS a2 c2 s) (by simp)); (with_reducible refine (stateFault_any x a2 c2 s _ hTk.out hLs.out).mono ?_); rintro e w1 ⟨rfl, hb⟩; have hP := Lib.hid (hP.out.to hb); clear hb; obtain ⟨_, t0, t1, t2, t3⟩ := (show TBox _ _ x from hP.out (boxS w.heap.size x) (by simp))) | (go_at_call 9; have hTk := Lib.hid (show TskIn _ _ x from hP.out (tskS x) (by simp)); have hLg := Lib.hid (show Lst _ _ a3 c3 goal from hP.out (lstS a3 c3 goal) (by simp)); (with_reducible refine (stateFault_any x a3 c3 goal _ hTk.out hLg.out).mono ?_); rintro e w1 ⟨rfl, hb⟩; have hP := Lib.hid (hP.out.to hb); clear hb; obtain ⟨_, t0, t1, t2, t3⟩ := (show TBox _ _ x from hP.out (boxS w.heap.size x) (by simp))) | (go_at_call 16; refine (in_any _ _ _ _).mono ?_; rintro e w' ⟨rfl, rfl⟩))
    go_ret
    exact ⟨rfl, hP.out (belS w) (by simp)⟩
  have ho : 0 ≤ op ∧ op < x.ops.length := by
    unfold inB at hi
    simp at hi
    omega
  have E := Lib.hid (re_exact (op := op) h1 h2 ho.1 ho.2)
  have EA := Lib.hid (ayF_good h1 ho.1 ho.2)
  have HR := Lib.hid (fun (W : World) (hX : TskIn W W.heap.size x) (hG : Lst W W.heap.size a3 c3 goal) (hT : TabIn W) => (by
    have h := regress_any x a3 c3 goal op W hX hG hT
    rw [ckF_good h2 ho.1 ho.2] at h
    exact h : Calls Tryd.prog 20 #[.agg #[.int .i64 x.n, .slice x.ai x.init.length x.ci, .slice x.ag x.goal.length x.cg, .slice x.ao x.ops.length x.co], .slice a3 goal.length c3, .int .i64 op] W (RegPost W (0, 0) (reB x goal op) (reL x goal op))))
  clear h1 h2 ho
  go_enter Tryd.func6, Tryd.ntmps6
  go_wp2_with (first | (go_at_call 10; have hTb := Lib.hid (show TabIn _ from hP.out tabS (by simp)); (with_reducible refine (acts_any _ hTb.out).mono ?_); rintro e w1 ⟨rfl, hb⟩; have hP := Lib.hid (hP.out.to hb); clear hb; obtain ⟨_, t0, t1, t2, t3⟩ := (show TBox _ _ x from hP.out (boxS w.heap.size x) (by simp))) | (go_at_call 9; have hTk := Lib.hid (show TskIn _ _ x from hP.out (tskS x) (by simp)); have hLs := Lib.hid (show Lst _ _ a2 c2 s from hP.out (lstS a2 c2 s) (by simp)); (with_reducible refine (stateFault_any x a2 c2 s _ hTk.out hLs.out).mono ?_); rintro e w1 ⟨rfl, hb⟩; have hP := Lib.hid (hP.out.to hb); clear hb; obtain ⟨_, t0, t1, t2, t3⟩ := (show TBox _ _ x from hP.out (boxS w.heap.size x) (by simp))) | (go_at_call 9; have hTk := Lib.hid (show TskIn _ _ x from hP.out (tskS x) (by simp)); have hLg := Lib.hid (show Lst _ _ a3 c3 goal from hP.out (lstS a3 c3 goal) (by simp)); (with_reducible refine (stateFault_any x a3 c3 goal _ hTk.out hLg.out).mono ?_); rintro e w1 ⟨rfl, hb⟩; have hP := Lib.hid (hP.out.to hb); clear hb; obtain ⟨_, t0, t1, t2, t3⟩ := (show TBox _ _ x from hP.out (boxS w.heap.size x) (by simp))) | (go_at_call 16; refine (in_any _ _ _ _).mono ?_; rintro e w' ⟨rfl, rfl⟩) | (go_at_call 20; have hTk := Lib.hid (show TskIn _ _ x from hP.out (tskS x) (by simp)); have hLg := Lib.hid (show Lst _ _ a3 c3 goal from hP.out (lstS a3 c3 goal) (by simp)); have hTb := Lib.hid (show TabIn _ from hP.out tabS (by simp)); (with_reducible refine (HR.out _ hTk.out hLg.out hTb.out).mono ?_); rintro e wR ⟨vR, rfl, hs, hb⟩; obtain ⟨ar, cr, rfl, hl⟩ := hs.set; have hP := Lib.hid (Alive.cons (twoS wR.heap.size (.int .i64 0) (.int .i64 0)) (two_new wR _ _ 27) ((Alive.cons (lstS ar cr (reL x goal op)) hl (hP.out.to hb)).to ((Below.refl _ _).alloc (Nat.le_refl _) _))); clear hl hs hb; obtain ⟨_, t0, t1, t2, t3⟩ := (show TBox _ _ x from hP.out (boxS w.heap.size x) (by simp))) | (go_at_call 18; have hTk := Lib.hid (show TskIn _ _ x from hP.out (tskS x) (by simp)); have hLs := Lib.hid (show Lst _ _ a2 c2 s from hP.out (lstS a2 c2 s) (by simp)); have hTb := Lib.hid (show TabIn _ from hP.out tabS (by simp)); (with_reducible refine (apply_any x a2 c2 s op _ hTk.out hLs.out hTb.out).mono ?_); rintro e wA ⟨vA, rfl, hs, hb⟩; obtain ⟨aa, ca, rfl, hl⟩ := hs.set; have hP := Lib.hid (Alive.cons (twoS wA.heap.size (.int .i64 (ayF x s op).1) (.int .i64 (ayF x s op).2)) (two_new wA _ _ 27) ((Alive.cons (lstS aa ca (ayL x s op)) hl (hP.out.to hb)).to ((Below.refl _ _).alloc (Nat.le_refl _) _))); clear hl hs hb; obtain ⟨_, t0, t1, t2, t3⟩ := (show TBox _ _ x from hP.out (boxS w.heap.size x) (by simp))))
  obtain ⟨_, k0, k1, f0, f1⟩ := (show Two _ wA.heap.size _ _ from hP.out (twoS wA.heap.size (.int .i64 (ayF x s op).1) (.int .i64 (ayF x s op).2)) (by simp))
  obtain ⟨_, m0, m1, g0, g1⟩ := (show Two _ wR.heap.size _ _ from hP.out (twoS wR.heap.size (.int .i64 0) (.int .i64 0)) (by simp))
  have hAA := Lib.hid (show Lst _ _ aa ca (ayL x s op) from hP.out (lstS aa ca (ayL x s op)) (by simp))
  have hAR := Lib.hid (show Lst _ _ ar cr (reL x goal op) from hP.out (lstS ar cr (reL x goal op)) (by simp))
  have hLs := Lib.hid (show Lst _ _ a2 c2 s from hP.out (lstS a2 c2 s) (by simp))
  have hLg := Lib.hid (show Lst _ _ a3 c3 goal from hP.out (lstS a3 c3 goal) (by simp))
  have hBe := Lib.hid (show Below w.heap.size w _ from hP.out (belS w) (by simp))
  clear hP
  generalize wA.alloc (.cells #[.int .i64 (ayF x s op).1, .int .i64 (ayF x s op).2] 27) = U at k0 k1 m0 m1 t0 t1 t2 t3 hAA hAR hLs hLg hBe ⊢
  have E := E.out
  rw [EA.out] at k0
  cases hb : reB x goal op <;> cases hp : subB (opn x op).pre s
  case false.false =>
    rw [hp] at k0
    go_quiet (first | (go_at_call 31; (with_reducible refine quiet_same (subset_any ar a2 cr c2 (reL x goal op) s _ ?_ ?_ hAR.out.len hLs.out.len)); exact hAR.out.nums; exact hLs.out.nums) | (go_at_call 31; (with_reducible refine quiet_same (subset_any a3 aa c3 ca goal (ayL x s op) _ ?_ ?_ hLg.out.len hAA.out.len)); exact hLg.out.nums; exact hAA.out.nums))
    go_wp2
    go_ret
    exact ⟨rfl, (by have h := hBe.out; (repeat' (first | (with_reducible assumption) | (with_reducible exact Below.refl _ _) | (with_reducible refine belowN ?_ _) | (with_reducible refine Below.alloc ?_ ?_ _) | (with_reducible refine Below.drew ?_) | (with_reducible refine Below.setCell ?_ ?_ _) | go_size)))⟩
  case false.true =>
    rw [hp] at k0
    rw [hb, hp, Bool.false_and, Bool.true_and] at E
    cases hg : subB goal (ayL x s op) <;> rw [hg] at E
    case true => exact absurd E (by simp)
    go_quiet (first | (go_at_call 31; (with_reducible refine quiet_same (subset_any ar a2 cr c2 (reL x goal op) s _ ?_ ?_ hAR.out.len hLs.out.len)); exact hAR.out.nums; exact hLs.out.nums) | (go_at_call 31; (with_reducible refine quiet_same (subset_any a3 aa c3 ca goal (ayL x s op) _ ?_ ?_ hLg.out.len hAA.out.len)); exact hLg.out.nums; exact hAA.out.nums))
    go_wp2
    go_ret
    exact ⟨rfl, (by have h := hBe.out; (repeat' (first | (with_reducible assumption) | (with_reducible exact Below.refl _ _) | (with_reducible refine belowN ?_ _) | (with_reducible refine Below.alloc ?_ ?_ _) | (with_reducible refine Below.drew ?_) | (with_reducible refine Below.setCell ?_ ?_ _) | go_size)))⟩
  case true.false =>
    rw [hp] at k0
    rw [hb, hp, Bool.false_and, Bool.true_and] at E
    go_quiet (first | (go_at_call 31; (with_reducible refine quiet_same (subset_any ar a2 cr c2 (reL x goal op) s _ ?_ ?_ hAR.out.len hLs.out.len)); exact hAR.out.nums; exact hLs.out.nums) | (go_at_call 31; (with_reducible refine quiet_same (subset_any a3 aa c3 ca goal (ayL x s op) _ ?_ ?_ hLg.out.len hAA.out.len)); exact hLg.out.nums; exact hAA.out.nums))
    go_wp2
    go_ret
    exact ⟨rfl, (by have h := hBe.out; (repeat' (first | (with_reducible assumption) | (with_reducible exact Below.refl _ _) | (with_reducible refine belowN ?_ _) | (with_reducible refine Below.alloc ?_ ?_ _) | (with_reducible refine Below.drew ?_) | (with_reducible refine Below.setCell ?_ ?_ _) | go_size)))⟩
  case true.true =>
    rw [hp] at k0
    rw [hb, hp, Bool.true_and, Bool.true_and] at E
    cases hg : subB goal (ayL x s op) <;> rw [hg] at E
    all_goals
      go_quiet (first | (go_at_call 31; (with_reducible refine quiet_same (subset_any ar a2 cr c2 (reL x goal op) s _ ?_ ?_ hAR.out.len hLs.out.len)); exact hAR.out.nums; exact hLs.out.nums) | (go_at_call 31; (with_reducible refine quiet_same (subset_any a3 aa c3 ca goal (ayL x s op) _ ?_ ?_ hLg.out.len hAA.out.len)); exact hLg.out.nums; exact hAA.out.nums))
      go_wp2
      go_ret
      exact ⟨rfl, (by have h := hBe.out; (repeat' (first | (with_reducible assumption) | (with_reducible exact Below.refl _ _) | (with_reducible refine belowN ?_ _) | (with_reducible refine Below.alloc ?_ ?_ _) | (with_reducible refine Below.drew ?_) | (with_reducible refine Below.setCell ?_ ?_ _) | go_size)))⟩
end Go.Proofs.YtdgolaegbdadlaaDoor
