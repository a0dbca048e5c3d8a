/- The law PlansFailuresAreReal: the walk. -/
import Derived.Test.YtkflidnclndpkaaDoorPlm
import Derived.Deep.CutRange
import Derived.Deep.RegionWith
namespace Go.Proofs.YtkflidnclndpkaaDoor
open Go.RowKit
set_option linter.unusedSimpArgs false
set_option linter.unusedVariables false
set_option maxRecDepth 100000

theorem svB_of {x : Tsk} {plan : List Int} (h : (plF x plan).1 = 0) : svB x plan = solB x x.n.toNat x.init plan := by
  unfold svB; rw [decide_eq_true h]; rfl
theorem ck_init {x : Tsk} {plan : List Int} (h : (plF x plan).1 = 0) : (ckF x x.init plan).1 = 0 := by
  obtain ⟨_, ht, h60, hp⟩ := plF_zero h
  have hv := (plF_val h).1
  refine ck_split ?_ h60 hp
  unfold stF
  rw [if_neg (by simpa using ht), if_pos (by rw [hv.eq]; exact setB_iff.2 hv.init)]
theorem ck_take {x : Tsk} {plan : List Int} (h : (plF x plan).1 = 0) (k : Nat) : (ckF x x.init (plan.take k)).1 = 0 :=
  ck_init (by rw [plF_sub h (List.take_sublist k plan)])
theorem ply_take {x : Tsk} {plan : List Int} {k : Nat} (h : (plF x plan).1 = 0) (hk : k ≤ plan.length) (hr : (runTo x x.n.toNat x.init plan k).isSome = true) : plyF x x.init (plan.take k) = (0, 0) := by
  refine plyF_end (ck_take h k) ?_
  rw [take_len hk, runTo_take hk]
  exact hr
theorem real_bad (hFl : FlC) (hRd : RdC) (hMn : MnC) (x : Tsk) (a3 : Option Addr) (c3 : Nat) (plan : List Int) (w : World) (hX : TskIn w w.heap.size x) (hL : Lst w w.heap.size a3 c3 plan) (hA : a3 = none → c3 = 0) (hT : TabIn w) (h0 : ¬ (plF x plan).1 = 0) :
    Calls Tryd.prog 7 #[.agg #[.int .i64 x.n, .slice x.ai x.init.length x.ci, .slice x.ag x.goal.length x.cg, .slice x.ao x.ops.length x.co], .slice a3 plan.length c3] w fun e w' => e = .returned (.bool true) ∧ Below w.heap.size w w' := by
  have hP := Lib.hid (Alive.cons (boxS w.heap.size x) (tbox_new w x 25) ((Alive.cons (tskS x) hX (Alive.cons (lstS a3 c3 plan) hL (Alive.cons tabS hT (Alive.cons (belS w) (Below.refl _ w) (Alive.nil w))))).to ((Below.refl _ _).alloc (Nat.le_refl _) (.cells #[.int .i64 x.n, .slice x.ai x.init.length x.ci, .slice x.ag x.goal.length x.cg, .slice x.ao x.ops.length x.co] 25))))
  have HFa := Lib.hid (fun (W : World) (hX : TskIn W W.heap.size x) (hL : Lst W W.heap.size a3 c3 plan) (hT : TabIn W) => hFl x a3 c3 plan W hX hL hA hT)
  have e1 : flI x plan = 0 := by unfold flI; rw [if_neg h0]
  rw [e1] at HFa
  have q1 : ((plF x plan).1 == 0) = false := by simpa using h0
  have q2 : ((plF x plan).1 != 0) = true := by simpa using h0
  clear hX hL hT e1 h0
  go_enter Tryd.func7, Tryd.ntmps7
  go_wp2_with (first | (go_at_call 9; have hTk := Lib.hid (show TskIn _ _ x from hP.out (tskS x) (by simp)); have hLp := Lib.hid (show Lst _ _ a3 c3 plan from hP.out (lstS a3 c3 plan) (by simp)); have hTb := Lib.hid (show TabIn _ from hP.out tabS (by simp)); (with_reducible refine (HFa.out _ hTk.out hLp.out hTb.out).mono ?_); rintro e wF ⟨rfl, hb⟩; have hP := Lib.hid (Alive.cons (twoS wF.heap.size (.int .i64 (plF x plan).1) (.int .i64 (plF x plan).2)) (two_new wF _ _ 27) ((hP.out.to hb).to ((Below.refl _ _).alloc (Nat.le_refl _) _))); clear hb; obtain ⟨_, t0, t1, t2, t3⟩ := (show TBox _ _ x from hP.out (boxS w.heap.size x) (by simp)); obtain ⟨_, k0, k1, f0, f1⟩ := (show Two _ wF.heap.size _ _ from hP.out (twoS wF.heap.size (.int .i64 (plF x plan).1) (.int .i64 (plF x plan).2)) (by simp))) | (go_at_call 10; have hTb := Lib.hid (show TabIn _ from hP.out tabS (by simp)); (with_reducible refine (shortens_any hFl hRd hMn _ hTb.out).mono ?_); rintro e wH ⟨rfl, hb⟩; have hP := Lib.hid (hP.out.to hb); clear hb; obtain ⟨_, t0, t1, t2, t3⟩ := (show TBox _ _ x from hP.out (boxS w.heap.size x) (by simp)); obtain ⟨_, k0, k1, f0, f1⟩ := (show Two _ wF.heap.size _ _ from hP.out (twoS wF.heap.size (.int .i64 (plF x plan).1) (.int .i64 (plF x plan).2)) (by simp))))
  go_ret
  exact ⟨rfl, hP.out (belS w) (by simp)⟩
def PlVal (W : World) (f : Int × Int) (e : Ending) (w' : World) : Prop := ∃ v, e = .returned (.tuple #[v, faultV f]) ∧ Below W.heap.size W w'
set_option maxHeartbeats 8000000 in
theorem real_walk (hFl : FlC) (hRd : RdC) (hMn : MnC) (x : Tsk) (a3 : Option Addr) (c3 : Nat) (plan : List Int) (w : World) (hX : TskIn w w.heap.size x) (hL : Lst w w.heap.size a3 c3 plan) (hT : TabIn w) (k : Nat) (hk : k ≤ plan.length) (h3 : a3 = none → c3 = 0) (G1 G2 : Int)
    (hq : ((G1 == 0) == ((k : Int) == (plan.length : Int))) = true)
    (HFa : Hid (∀ (W : World), TskIn W W.heap.size x → Lst W W.heap.size a3 c3 plan → TabIn W → Calls Tryd.prog 9 #[.agg #[.int .i64 x.n, .slice x.ai x.init.length x.ci, .slice x.ag x.goal.length x.cg, .slice x.ao x.ops.length x.co], .slice a3 plan.length c3] W fun e w' => e = .returned (.tuple #[.int .i64 (k : Int), .agg #[.int .i64 0, .int .i64 0]]) ∧ Below W.heap.size W w'))
    (HSv : Hid (∀ (W : World), TskIn W W.heap.size x → Lst W W.heap.size a3 c3 plan → Calls Tryd.prog 19 #[.agg #[.int .i64 x.n, .slice x.ai x.init.length x.ci, .slice x.ag x.goal.length x.cg, .slice x.ao x.ops.length x.co], .slice a3 plan.length c3] W fun e w' => e = .returned (.tuple #[.bool false, .agg #[.int .i64 0, .int .i64 0]]) ∧ Below W.heap.size W w'))
    (HPk : Hid (∀ (W : World), TskIn W W.heap.size x → Lst W W.heap.size a3 c3 plan → TabIn W → Calls Tryd.prog 24 #[.agg #[.int .i64 x.n, .slice x.ai x.init.length x.ci, .slice x.ag x.goal.length x.cg, .slice x.ao x.ops.length x.co], .slice x.ai x.init.length x.ci, .slice a3 k c3] W (PlVal W (0, 0))))
    (HPa : Hid (∀ (W : World), TskIn W W.heap.size x → Lst W W.heap.size a3 c3 plan → TabIn W → Calls Tryd.prog 24 #[.agg #[.int .i64 x.n, .slice x.ai x.init.length x.ci, .slice x.ag x.goal.length x.cg, .slice x.ao x.ops.length x.co], .slice x.ai x.init.length x.ci, .slice a3 plan.length c3] W (PlVal W (G1, G2)))) :
    Calls Tryd.prog 7 #[.agg #[.int .i64 x.n, .slice x.ai x.init.length x.ci, .slice x.ag x.goal.length x.cg, .slice x.ao x.ops.length x.co], .slice a3 plan.length c3] w fun e w' => e = .returned (.bool true) ∧ Below w.heap.size w w' := by
  have hcap := hL.le
  have hmax := hL.max
  unfold maxLen at hmax
  have hP := Lib.hid (Alive.cons (boxS w.heap.size x) (tbox_new w x 25) ((Alive.cons (tskS x) hX (Alive.cons (lstS a3 c3 plan) hL (Alive.cons tabS hT (Alive.cons (belS w) (Below.refl _ w) (Alive.nil w))))).to ((Below.refl _ _).alloc (Nat.le_refl _) (.cells #[.int .i64 x.n, .slice x.ai x.init.length x.ci, .slice x.ag x.goal.length x.cg, .slice x.ao x.ops.length x.co] 25))))
  have hn1 : ((k : Int) == -1) = false := by first | (simp; done) | (simp; omega)
  have hn2 : decide ((k : Int) < 0) = false := by simp
  have hn3 : inB (k : Int) (-1) (plan.length : Int) = true := by unfold inB; exact decide_eq_true ⟨by omega, by omega⟩
  have hn4 : (k : Int) ≤ c3 := by omega
  have hn5 : (0 : Int) ≤ (k : Int) := by omega
  have hn6 : ((k : Int)).toNat = k := by omega
  have HQ := Lib.hid hq
  have HK := Lib.hid hk
  clear hX hL hT hq hk
  go_enter Tryd.func7, Tryd.ntmps7
  go_upto_region 9 with (first | (go_at_call 9; have hTk := Lib.hid (show TskIn _ _ x from hP.out (tskS x) (by simp)); have hLp := Lib.hid (show Lst _ _ a3 c3 plan from hP.out (lstS a3 c3 plan) (by simp)); have hTb := Lib.hid (show TabIn _ from hP.out tabS (by simp)); (with_reducible refine (HFa.out _ hTk.out hLp.out hTb.out).mono ?_); rintro e wF ⟨rfl, hb⟩; have hP := Lib.hid (Alive.cons (twoS wF.heap.size (.int .i64 0) (.int .i64 0)) (two_new wF _ _ 27) ((hP.out.to hb).to ((Below.refl _ _).alloc (Nat.le_refl _) _))); clear hb; obtain ⟨_, t0, t1, t2, t3⟩ := (show TBox _ _ x from hP.out (boxS w.heap.size x) (by simp)); obtain ⟨_, k0, k1, f0, f1⟩ := (show Two _ wF.heap.size _ _ from hP.out (twoS wF.heap.size (.int .i64 0) (.int .i64 0)) (by simp))) | (go_at_call 10; have hTb := Lib.hid (show TabIn _ from hP.out tabS (by simp)); (with_reducible refine (shortens_any hFl hRd hMn _ hTb.out).mono ?_); rintro e wH ⟨rfl, hb⟩; have hP := Lib.hid (hP.out.to hb); clear hb; obtain ⟨_, t0, t1, t2, t3⟩ := (show TBox _ _ x from hP.out (boxS w.heap.size x) (by simp)); obtain ⟨_, k0, k1, f0, f1⟩ := (show Two _ wF.heap.size _ _ from hP.out (twoS wF.heap.size (.int .i64 0) (.int .i64 0)) (by simp))) | (go_at_call 19; have hTk := Lib.hid (show TskIn _ _ x from hP.out (tskS x) (by simp)); have hLp := Lib.hid (show Lst _ _ a3 c3 plan from hP.out (lstS a3 c3 plan) (by simp)); (with_reducible refine (HSv.out _ hTk.out hLp.out).mono ?_); rintro e wV ⟨rfl, hb⟩; have HBV := Lib.hid (show TBox wV w.heap.size x from (hP.out.to hb) (boxS w.heap.size x) (by simp)); have hP := Lib.hid (Alive.cons (twoS wV.heap.size (.int .i64 0) (.int .i64 0)) (two_new wV _ _ 27) ((hP.out.to hb).to ((Below.refl _ _).alloc (Nat.le_refl _) _))); clear hb; obtain ⟨_, t0, t1, t2, t3⟩ := (show TBox _ _ x from hP.out (boxS w.heap.size x) (by simp)); obtain ⟨_, k0, k1, f0, f1⟩ := (show Two _ wF.heap.size _ _ from hP.out (twoS wF.heap.size (.int .i64 0) (.int .i64 0)) (by simp)); obtain ⟨_, l0, l1, g0, g1⟩ := (show Two _ wV.heap.size _ _ from hP.out (twoS wV.heap.size (.int .i64 0) (.int .i64 0)) (by simp))) | (go_at_call 22; refine (in_any _ _ _ _).mono ?_; rintro e w7 ⟨rfl, rfl⟩))
  have hwU : w.heap.size < wV.heap.size := (show TBox wV w.heap.size x from HBV.out).lt
  generalize hU : wV.alloc (.cells #[.int .i64 0, .int .i64 0] 27) = U at hP t0 t1 t2 t3 k0 k1 f0 f1 l0 l1 g0 g1 ⊢
  have hUs : w.heap.size < U.heap.size := by rw [← hU]; simp; omega
  clear hU hwU
  have HAL := Lib.hid (fun (V : World) (h : Below U.heap.size U V) => hP.out.to h)
  have hUU := Below.refl U.heap.size U
  go_cut [9, 10] from 55 to 64 (fun y g wx => ∃ gb, g = .pointer (some ⟨gb, 0, none⟩) ∧ Below U.heap.size U wx ∧ Two wx gb (.int .i64 0) (.int .i64 0))
  case first =>
    clear hP
    go_region_with (first | (go_at_call 24; refine (HPk.out _ ?_ ?_ ?_).mono ?_; (exact (show TskIn _ _ x from HAL.out _ (by (repeat' (first | (with_reducible assumption) | (with_reducible exact Below.refl _ _) | (with_reducible refine belowN ?_ _) | (with_reducible refine Below.alloc ?_ ?_ _) | (with_reducible refine Below.drew ?_) | (with_reducible refine Below.setCell ?_ ?_ _) | go_size))) (tskS x) (by simp))); (exact (show Lst _ _ a3 c3 plan from HAL.out _ (by (repeat' (first | (with_reducible assumption) | (with_reducible exact Below.refl _ _) | (with_reducible refine belowN ?_ _) | (with_reducible refine Below.alloc ?_ ?_ _) | (with_reducible refine Below.drew ?_) | (with_reducible refine Below.setCell ?_ ?_ _) | go_size))) (lstS a3 c3 plan) (by simp))); (exact (show TabIn _ from HAL.out _ (by (repeat' (first | (with_reducible assumption) | (with_reducible exact Below.refl _ _) | (with_reducible refine belowN ?_ _) | (with_reducible refine Below.alloc ?_ ?_ _) | (with_reducible refine Below.drew ?_) | (with_reducible refine Below.setCell ?_ ?_ _) | go_size))) tabS (by simp))); rintro e wY ⟨vY, rfl, hb⟩; have hbU : Below U.heap.size U wY := bel_step (by (repeat' (first | (with_reducible assumption) | (with_reducible exact Below.refl _ _) | (with_reducible refine belowN ?_ _) | (with_reducible refine Below.alloc ?_ ?_ _) | (with_reducible refine Below.drew ?_) | (with_reducible refine Below.setCell ?_ ?_ _) | go_size))) hb; (first | (refine have_two (g := U.heap.size) (u := .int .i64 0) (v := .int .i64 0) hb ?_ (fun hz => ?_); (first | (exact two_new _ _ _ _) | (exact two1 (two_new _ _ _ _)) | (exact two1 (two1 (two_new _ _ _ _)))); have HZ := Lib.hid hz; obtain ⟨_, z0, z1, z2, z3⟩ := hz) | skip); have HBY := Lib.hid hbU; clear hb hbU))
    all_goals
      go_wp2_with fail
      go_meet
      first
        | exact ⟨wY.heap.size, rfl, HBY.out.alloc HBY.out.size _, two_new _ _ _ _⟩
        | exact ⟨U.heap.size, rfl, (HBY.out.setCell (Nat.le_refl _) _).setCell (Nat.le_refl _) _, HZ.out.set _ _⟩
  case rest =>
    obtain ⟨gb, rfl, hbU, htw⟩ := hcut
    have hP := Lib.hid (Alive.cons (twoS gb (.int .i64 0) (.int .i64 0)) htw (HAL.out _ hbU))
    clear hbU htw HAL hUU t0 t1 t2 t3 k0 k1 f0 f1 l0 l1 g0 g1
    obtain ⟨_, t0, t1, t2, t3⟩ := (show TBox _ _ x from hP.out (boxS w.heap.size x) (by simp))
    go_wp2_with (go_at_call 24; have hTk := Lib.hid (show TskIn _ _ x from hP.out (tskS x) (by simp)); have hLp := Lib.hid (show Lst _ _ a3 c3 plan from hP.out (lstS a3 c3 plan) (by simp)); have hTb := Lib.hid (show TabIn _ from hP.out tabS (by simp)); refine (HPa.out _ hTk.out hLp.out hTb.out).mono ?_; rintro e wA ⟨vA, rfl, hb⟩; have hP := Lib.hid (Alive.cons (twoS wA.heap.size (.int .i64 G1) (.int .i64 G2)) (two_new wA _ _ 27) ((hP.out.to hb).to ((Below.refl _ _).alloc (Nat.le_refl _) _))); clear hb; obtain ⟨_, t0, t1, t2, t3⟩ := (show TBox _ _ x from hP.out (boxS w.heap.size x) (by simp)); obtain ⟨_, m0, m1, _, _⟩ := (show Two _ gb _ _ from hP.out (twoS gb (.int .i64 0) (.int .i64 0)) (by simp)); obtain ⟨_, n0, n1, _, _⟩ := (show Two _ wA.heap.size _ _ from hP.out (twoS wA.heap.size (.int .i64 G1) (.int .i64 G2)) (by simp)))
    go_ret
    exact ⟨ret_bool HQ.out, hP.out (belS w) (by simp)⟩
set_option maxHeartbeats 4000000 in
theorem real_sol (hFl : FlC) (hRd : RdC) (hMn : MnC) (x : Tsk) (a3 : Option Addr) (c3 : Nat) (plan : List Int) (w : World) (hX : TskIn w w.heap.size x) (hL : Lst w w.heap.size a3 c3 plan) (hT : TabIn w)
    (HFa : Hid (∀ (W : World), TskIn W W.heap.size x → Lst W W.heap.size a3 c3 plan → TabIn W → Calls Tryd.prog 9 #[.agg #[.int .i64 x.n, .slice x.ai x.init.length x.ci, .slice x.ag x.goal.length x.cg, .slice x.ao x.ops.length x.co], .slice a3 plan.length c3] W fun e w' => e = .returned (.tuple #[.int .i64 (-1), .agg #[.int .i64 0, .int .i64 0]]) ∧ Below W.heap.size W w'))
    (HSv : Hid (∀ (W : World), TskIn W W.heap.size x → Lst W W.heap.size a3 c3 plan → Calls Tryd.prog 19 #[.agg #[.int .i64 x.n, .slice x.ai x.init.length x.ci, .slice x.ag x.goal.length x.cg, .slice x.ao x.ops.length x.co], .slice a3 plan.length c3] W fun e w' => e = .returned (.tuple #[.bool true, .agg #[.int .i64 0, .int .i64 0]]) ∧ Below W.heap.size W w')) :
    Calls Tryd.prog 7 #[.agg #[.int .i64 x.n, .slice x.ai x.init.length x.ci, .slice x.ag x.goal.length x.cg, .slice x.ao x.ops.length x.co], .slice a3 plan.length c3] w fun e w' => e = .returned (.bool true) ∧ Below w.heap.size w w' := by
  have hmax := hL.max
  have hle := hL.le
  unfold maxLen at hmax
  have hP := Lib.hid (Alive.cons (boxS w.heap.size x) (tbox_new w x 25) ((Alive.cons (tskS x) hX (Alive.cons (lstS a3 c3 plan) hL (Alive.cons tabS hT (Alive.cons (belS w) (Below.refl _ w) (Alive.nil w))))).to ((Below.refl _ _).alloc (Nat.le_refl _) (.cells #[.int .i64 x.n, .slice x.ai x.init.length x.ci, .slice x.ag x.goal.length x.cg, .slice x.ao x.ops.length x.co] 25))))
  have hn3 : inB (-1) (-1) (plan.length : Int) = true := by unfold inB; exact decide_eq_true ⟨by omega, by omega⟩
  clear hX hL hT
  go_enter Tryd.func7, Tryd.ntmps7
  go_wp2_with (first | (go_at_call 9; have hTk := Lib.hid (show TskIn _ _ x from hP.out (tskS x) (by simp)); have hLp := Lib.hid (show Lst _ _ a3 c3 plan from hP.out (lstS a3 c3 plan) (by simp)); have hTb := Lib.hid (show TabIn _ from hP.out tabS (by simp)); (with_reducible refine (HFa.out _ hTk.out hLp.out hTb.out).mono ?_); rintro e wF ⟨rfl, hb⟩; have hP := Lib.hid (Alive.cons (twoS wF.heap.size (.int .i64 0) (.int .i64 0)) (two_new wF _ _ 27) ((hP.out.to hb).to ((Below.refl _ _).alloc (Nat.le_refl _) _))); clear hb; obtain ⟨_, t0, t1, t2, t3⟩ := (show TBox _ _ x from hP.out (boxS w.heap.size x) (by simp)); obtain ⟨_, k0, k1, f0, f1⟩ := (show Two _ wF.heap.size _ _ from hP.out (twoS wF.heap.size (.int .i64 0) (.int .i64 0)) (by simp))) | (go_at_call 10; have hTb := Lib.hid (show TabIn _ from hP.out tabS (by simp)); (with_reducible refine (shortens_any hFl hRd hMn _ hTb.out).mono ?_); rintro e wH ⟨rfl, hb⟩; have hP := Lib.hid (hP.out.to hb); clear hb; obtain ⟨_, t0, t1, t2, t3⟩ := (show TBox _ _ x from hP.out (boxS w.heap.size x) (by simp)); obtain ⟨_, k0, k1, f0, f1⟩ := (show Two _ wF.heap.size _ _ from hP.out (twoS wF.heap.size (.int .i64 0) (.int .i64 0)) (by simp))) | (go_at_call 19; have hTk := Lib.hid (show TskIn _ _ x from hP.out (tskS x) (by simp)); have hLp := Lib.hid (show Lst _ _ a3 c3 plan from hP.out (lstS a3 c3 plan) (by simp)); (with_reducible refine (HSv.out _ hTk.out hLp.out).mono ?_); rintro e wV ⟨rfl, hb⟩; have HBV := Lib.hid (show TBox wV w.heap.size x from (hP.out.to hb) (boxS w.heap.size x) (by simp)); have hP := Lib.hid (Alive.cons (twoS wV.heap.size (.int .i64 0) (.int .i64 0)) (two_new wV _ _ 27) ((hP.out.to hb).to ((Below.refl _ _).alloc (Nat.le_refl _) _))); clear hb; obtain ⟨_, t0, t1, t2, t3⟩ := (show TBox _ _ x from hP.out (boxS w.heap.size x) (by simp)); obtain ⟨_, k0, k1, f0, f1⟩ := (show Two _ wF.heap.size _ _ from hP.out (twoS wF.heap.size (.int .i64 0) (.int .i64 0)) (by simp)); obtain ⟨_, l0, l1, g0, g1⟩ := (show Two _ wV.heap.size _ _ from hP.out (twoS wV.heap.size (.int .i64 0) (.int .i64 0)) (by simp))) | (go_at_call 22; refine (in_any _ _ _ _).mono ?_; rintro e w7 ⟨rfl, rfl⟩))
  go_ret
  exact ⟨rfl, hP.out (belS w) (by simp)⟩

theorem flI_of {x : Tsk} {plan : List Int} {n : Int} (h : (plF x plan).1 = 0) (hf : failF x x.n.toNat plan = n) : flI x plan = n := by
  unfold flI
  rw [if_pos h, hf]
theorem real_any (hFl : FlC) (hRd : RdC) (hMn : MnC) (x : Tsk) (a3 : Option Addr) (c3 : Nat) (plan : List Int) (w : World) (hX : TskIn w w.heap.size x) (hL : Lst w w.heap.size a3 c3 plan) (hA : a3 = none → c3 = 0) (hT : TabIn w) :
    Calls Tryd.prog 7 #[.agg #[.int .i64 x.n, .slice x.ai x.init.length x.ci, .slice x.ag x.goal.length x.cg, .slice x.ao x.ops.length x.co], .slice a3 plan.length c3] w fun e w' => e = .returned (.bool true) ∧ Below w.heap.size w w' := by
  by_cases h0 : (plF x plan).1 = 0
  case neg => exact real_bad hFl hRd hMn x a3 c3 plan w hX hL hA hT h0
  have hz := (plF_zero h0).1
  have hck := ck_init h0
  have HFa : ∀ n : Int, failF x x.n.toNat plan = n → Hid (∀ (W : World), TskIn W W.heap.size x → Lst W W.heap.size a3 c3 plan → TabIn W → Calls Tryd.prog 9 #[.agg #[.int .i64 x.n, .slice x.ai x.init.length x.ci, .slice x.ag x.goal.length x.cg, .slice x.ao x.ops.length x.co], .slice a3 plan.length c3] W fun e w' => e = .returned (.tuple #[.int .i64 n, .agg #[.int .i64 0, .int .i64 0]]) ∧ Below W.heap.size W w') := by
    intro n hf
    refine Lib.hid (fun W hX hL hT => ?_)
    have h := hFl x a3 c3 plan W hX hL hA hT
    rw [flI_of h0 hf, hz] at h
    exact h
  have HSv : ∀ q : Bool, solB x x.n.toNat x.init plan = q → Hid (∀ (W : World), TskIn W W.heap.size x → Lst W W.heap.size a3 c3 plan → Calls Tryd.prog 19 #[.agg #[.int .i64 x.n, .slice x.ai x.init.length x.ci, .slice x.ag x.goal.length x.cg, .slice x.ao x.ops.length x.co], .slice a3 plan.length c3] W fun e w' => e = .returned (.tuple #[.bool q, .agg #[.int .i64 0, .int .i64 0]]) ∧ Below W.heap.size W w') := by
    intro q hq
    refine Lib.hid (fun W hX hL => ?_)
    have h := ssolves_any x a3 c3 plan W hX hL
    rw [svB_of h0, hq, hz] at h
    exact h
  have HPk : ∀ k, k ≤ plan.length → (runTo x x.n.toNat x.init plan k).isSome = true → Hid (∀ (W : World), TskIn W W.heap.size x → Lst W W.heap.size a3 c3 plan → TabIn W → Calls Tryd.prog 24 #[.agg #[.int .i64 x.n, .slice x.ai x.init.length x.ci, .slice x.ag x.goal.length x.cg, .slice x.ao x.ops.length x.co], .slice x.ai x.init.length x.ci, .slice a3 k c3] W (PlVal W (0, 0))) := by
    intro k hk hr
    refine Lib.hid (fun W hX hL hT => ?_)
    have h := play_any x x.ai a3 x.ci c3 x.init (plan.take k) W hX hX.init (lst_take hL hk) hT
    rw [take_len hk, ply_take h0 hk hr] at h
    exact h.mono fun e w' ⟨v, he, _, hb⟩ => ⟨v, he, hb⟩
  have HPa : ∀ f : Int × Int, plyF x x.init plan = f → Hid (∀ (W : World), TskIn W W.heap.size x → Lst W W.heap.size a3 c3 plan → TabIn W → Calls Tryd.prog 24 #[.agg #[.int .i64 x.n, .slice x.ai x.init.length x.ci, .slice x.ag x.goal.length x.cg, .slice x.ao x.ops.length x.co], .slice x.ai x.init.length x.ci, .slice a3 plan.length c3] W (PlVal W f)) := by
    intro f hf
    refine Lib.hid (fun W hX hL hT => ?_)
    have h := play_any x x.ai a3 x.ci c3 x.init plan W hX hX.init hL hT
    rw [hf] at h
    exact h.mono fun e w' ⟨v, he, _, hb⟩ => ⟨v, he, hb⟩
  rcases fail_cases x x.n.toNat plan with ⟨k, hk, hf, hs, hn⟩ | ⟨hex, hf⟩
  · have hsol : solB x x.n.toNat x.init plan = false := by
      unfold solB
      rw [runTo_none hn _ (by omega)]
    refine real_walk hFl hRd hMn x a3 c3 plan w hX hL hT k (by omega) hA 11 k ?_ (HFa _ hf) (HSv _ hsol) (HPk k (by omega) hs) (HPa _ (plyF_stop hck hk hs hn))
    have : ((k : Int) == (plan.length : Int)) = false := by rw [beq_eq_false_iff_ne]; omega
    rw [this]
    rfl
  · cases hsol : solB x x.n.toNat x.init plan
    · rw [hsol, if_neg (by simp)] at hf
      refine real_walk hFl hRd hMn x a3 c3 plan w hX hL hT plan.length (Nat.le_refl _) hA 0 0 (by simp) (HFa _ hf) (HSv _ hsol) (HPk _ (Nat.le_refl _) hex) (HPa _ (plyF_end hck hex))
    · rw [hsol, if_pos rfl] at hf
      exact real_sol hFl hRd hMn x a3 c3 plan w hX hL hT (HFa _ hf) (HSv _ hsol)
end Go.Proofs.YtkflidnclndpkaaDoor
