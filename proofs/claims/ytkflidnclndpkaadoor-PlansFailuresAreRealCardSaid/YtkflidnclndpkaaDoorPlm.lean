/- The law PlansMinimalMatchesSpec: the walk. -/
import Derived.Test.YtkflidnclndpkaaDoorPsx
namespace Go.Proofs.YtkflidnclndpkaaDoor
open Go.RowKit
set_option linter.unusedSimpArgs false
set_option linter.unusedVariables false
set_option maxRecDepth 100000

/-- A store into the box of the fault keeps the rest. -/
theorem alive_set1 {w W : World} {x : Tsk} {a3 : Option Addr} {c3 : Nat} {plan : List Int} {g : Nat} {u v : Value} (hX : ∀ W, Below w.heap.size w W → TskIn W W.heap.size x) (hL : ∀ W, Below w.heap.size w W → Lst W W.heap.size a3 c3 plan) (hT : ∀ W, Below w.heap.size w W → TabIn W)
    (hg : w.heap.size < g) (h : Alive (twoS g u v :: [boxS w.heap.size x, tskS x, lstS a3 c3 plan, tabS, belS w]) W) (a b : Value) : Alive (twoS g a b :: [boxS w.heap.size x, tskS x, lstS a3 c3 plan, tabS, belS w]) ((W.setCell ⟨g, 0, none⟩ a).setCell ⟨g, 1, none⟩ b) := by
  have htw := (show Two W g u v from h (twoS g u v) (by simp)).set a b
  have hbx := ((show TBox W w.heap.size x from h (boxS w.heap.size x) (by simp)).far (p := ⟨g, 0, none⟩) (Nat.ne_of_gt hg) a).far (p := ⟨g, 1, none⟩) (Nat.ne_of_gt hg) b
  have hbel := ((show Below w.heap.size w W from h (belS w) (by simp)).setCell (p := ⟨g, 0, none⟩) (Nat.le_of_lt hg) a).setCell (p := ⟨g, 1, none⟩) (Nat.le_of_lt hg) b
  exact Alive.cons (twoS g a b) htw (Alive.cons (boxS w.heap.size x) hbx (Alive.cons (tskS x) (hX _ hbel) (Alive.cons (lstS a3 c3 plan) (hL _ hbel) (Alive.cons tabS (hT _ hbel) (Alive.cons (belS w) hbel (Alive.nil _))))))
set_option maxHeartbeats 8000000 in
theorem minspec_any (hFl : FlC) (hRd : RdC) (hMn : MnC) (x : Tsk) (a3 : Option Addr) (c3 : Nat) (plan : List Int) (w : World) (hX : TskIn w w.heap.size x) (hL : Lst w w.heap.size a3 c3 plan) (hA : a3 = none → c3 = 0) (hT : TabIn w) :
    Calls Tryd.prog 4 #[.agg #[.int .i64 x.n, .slice x.ai x.init.length x.ci, .slice x.ag x.goal.length x.cg, .slice x.ao x.ops.length x.co], .slice a3 plan.length c3] w fun e w' => e = .returned (.bool true) ∧ Below w.heap.size w w' := by
  have hln := hL.len
  unfold maxLen at hln
  have HX0 := Lib.hid (fun (W : World) (h : Below w.heap.size w W) => hX.to h h.size)
  have HL0 := Lib.hid (fun (W : World) (h : Below w.heap.size w W) => hL.to h h.size)
  have HT0 := Lib.hid (fun (W : World) (h : Below w.heap.size w W) => hT.to h (Nat.le_refl _))
  have hP := Lib.hid (Alive.cons (boxS w.heap.size x) (tbox_new w x 25) ((Alive.cons (tskS x) hX (Alive.cons (lstS a3 c3 plan) hL (Alive.cons tabS hT (Alive.cons (belS w) (Below.refl _ w) (Alive.nil w))))).to ((Below.refl _ _).alloc (Nat.le_refl _) (.cells #[.int .i64 x.n, .slice x.ai x.init.length x.ci, .slice x.ag x.goal.length x.cg, .slice x.ao x.ops.length x.co] 25))))
  have HSf := Lib.hid (fun (W : World) (hX : TskIn W W.heap.size x) (hL : Lst W W.heap.size a3 c3 plan) => solutionFault_any x a3 c3 plan W hX hL)
  have HMc := Lib.hid (fun (W : World) (hX : TskIn W W.heap.size x) (hL : Lst W W.heap.size a3 c3 plan) (hT : TabIn W) => hMn x a3 c3 plan W hX hL hA hT)
  clear hX hL hT
  by_cases hs : (soF x plan).1 = 0
  case neg =>
    have q1 : ((soF x plan).1 == 0) = false := by simpa using hs
    have q2 : ((soF x plan).1 != 0) = true := by simpa using hs
    have e1 : mnF x plan = soF x plan := by unfold mnF; rw [if_pos hs]
    have e2 : mnB x plan = false := by unfold mnB; rw [e1, decide_eq_false hs]; rfl
    rw [e1, e2] at HMc
    clear hs e1 e2
    go_enter Tryd.func4, Tryd.ntmps4
    go_wp2_with (first | (go_at_call 10; have hTb := Lib.hid (show TabIn _ from hP.out tabS (by simp)); (with_reducible refine (shortens_any hFl hRd hMn _ hTb.out).mono ?_); rintro e wH ⟨rfl, hb⟩; have hP := Lib.hid (hP.out.to hb); clear hb; obtain ⟨_, t0, t1, t2, t3⟩ := (show TBox _ _ x from hP.out (boxS w.heap.size x) (by simp)); skip) | (go_at_call 12; have hTk := Lib.hid (show TskIn _ _ x from hP.out (tskS x) (by simp)); have hLp := Lib.hid (show Lst _ _ a3 c3 plan from hP.out (lstS a3 c3 plan) (by simp)); (with_reducible refine (HSf.out _ hTk.out hLp.out).mono ?_); rintro e wS ⟨rfl, hb⟩; have HWS := Lib.hid (show TBox wS w.heap.size x from (hP.out.to hb) (boxS w.heap.size x) (by simp)).lt; have hP := Lib.hid (Alive.cons (twoS wS.heap.size (.int .i64 (soF x plan).1) (.int .i64 (soF x plan).2)) (two_new wS _ _ 27) ((hP.out.to hb).to ((Below.refl _ _).alloc (Nat.le_refl _) _))); clear hb; obtain ⟨_, t0, t1, t2, t3⟩ := (show TBox _ _ x from hP.out (boxS w.heap.size x) (by simp)); obtain ⟨_, k0, k1, f0, f1⟩ := (show Two _ wS.heap.size _ _ from hP.out (twoS wS.heap.size (.int .i64 (soF x plan).1) (.int .i64 (soF x plan).2)) (by simp))) | (go_at_call 17; have hTk := Lib.hid (show TskIn _ _ x from hP.out (tskS x) (by simp)); have hLp := Lib.hid (show Lst _ _ a3 c3 plan from hP.out (lstS a3 c3 plan) (by simp)); have hTb := Lib.hid (show TabIn _ from hP.out tabS (by simp)); (with_reducible refine (HMc.out _ hTk.out hLp.out hTb.out).mono ?_); rintro e wM ⟨rfl, hb⟩; have hP := Lib.hid (Alive.cons (twoS wM.heap.size (.int .i64 (soF x plan).1) (.int .i64 (soF x plan).2)) (two_new wM _ _ 27) ((hP.out.to hb).to ((Below.refl _ _).alloc (Nat.le_refl _) _))); clear hb; obtain ⟨_, t0, t1, t2, t3⟩ := (show TBox _ _ x from hP.out (boxS w.heap.size x) (by simp)); obtain ⟨_, k0, k1, f0, f1⟩ := (show Two _ wS.heap.size _ _ from hP.out (twoS wS.heap.size (.int .i64 (soF x plan).1) (.int .i64 (soF x plan).2)) (by simp)); obtain ⟨_, m0, m1, g0, g1⟩ := (show Two _ wM.heap.size _ _ from hP.out (twoS wM.heap.size (.int .i64 (soF x plan).1) (.int .i64 (soF x plan).2)) (by simp))))
    go_ret
    exact ⟨rfl, hP.out (belS w) (by simp)⟩
  case pos =>
    obtain ⟨e0, hpf, hsv⟩ := soF_zero hs
    rw [e0] at HSf
    by_cases hl : 12 < plan.length
    case pos =>
      have e1 : mnF x plan = (10, -8) := by unfold mnF; rw [if_neg (by simpa using hs), if_pos hl]
      have e2 : mnB x plan = false := by unfold mnB; rw [e1]; rfl
      have hd : decide ((plan.length : Int) > 12) = true := by simp; omega
      have hd2 : decide ((12 : Int) < plan.length) = true := by simp; omega
      rw [e1, e2] at HMc
      clear hs e1 e2 hpf hsv e0
      go_enter Tryd.func4, Tryd.ntmps4
      go_upto_region 6 with (first | (go_at_call 10; have hTb := Lib.hid (show TabIn _ from hP.out tabS (by simp)); (with_reducible refine (shortens_any hFl hRd hMn _ hTb.out).mono ?_); rintro e wH ⟨rfl, hb⟩; have hP := Lib.hid (hP.out.to hb); clear hb; obtain ⟨_, t0, t1, t2, t3⟩ := (show TBox _ _ x from hP.out (boxS w.heap.size x) (by simp)); skip) | (go_at_call 12; have hTk := Lib.hid (show TskIn _ _ x from hP.out (tskS x) (by simp)); have hLp := Lib.hid (show Lst _ _ a3 c3 plan from hP.out (lstS a3 c3 plan) (by simp)); (with_reducible refine (HSf.out _ hTk.out hLp.out).mono ?_); rintro e wS ⟨rfl, hb⟩; have HWS := Lib.hid (show TBox wS w.heap.size x from (hP.out.to hb) (boxS w.heap.size x) (by simp)).lt; have hP := Lib.hid (Alive.cons (twoS wS.heap.size (.int .i64 0) (.int .i64 0)) (two_new wS _ _ 27) ((hP.out.to hb).to ((Below.refl _ _).alloc (Nat.le_refl _) _))); clear hb; obtain ⟨_, t0, t1, t2, t3⟩ := (show TBox _ _ x from hP.out (boxS w.heap.size x) (by simp)); obtain ⟨_, k0, k1, f0, f1⟩ := (show Two _ wS.heap.size _ _ from hP.out (twoS wS.heap.size (.int .i64 0) (.int .i64 0)) (by simp))) | (go_at_call 16; refine (at_any _ _ _).mono ?_; rintro e wT ⟨rfl, hb⟩; have hP := Lib.hid (hP.out.to hb); clear hb; obtain ⟨_, t0, t1, t2, t3⟩ := (show TBox _ _ x from hP.out (boxS w.heap.size x) (by simp)); obtain ⟨_, k0, k1, f0, f1⟩ := (show Two _ wS.heap.size _ _ from hP.out (twoS wS.heap.size (.int .i64 0) (.int .i64 0)) (by simp))))
      have hP := Lib.hid (alive_set1 HX0.out HL0.out HT0.out HWS.out hP.out (.int .i64 10) (.int .i64 (-8)))
      clear t0 t1 t2 t3 k0 k1 f0 f1
      generalize (wT.setCell ⟨wS.heap.size, 0, none⟩ (.int .i64 10)).setCell ⟨wS.heap.size, 1, none⟩ (.int .i64 (-8)) = U1 at hP ⊢
      obtain ⟨_, t0, t1, t2, t3⟩ := (show TBox _ _ x from hP.out (boxS w.heap.size x) (by simp))
      obtain ⟨_, k0, k1, f0, f1⟩ := (show Two _ wS.heap.size _ _ from hP.out (twoS wS.heap.size (.int .i64 10) (.int .i64 (-8))) (by simp))
      go_wp2_with (go_at_call 17; have hTk := Lib.hid (show TskIn _ _ x from hP.out (tskS x) (by simp)); have hLp := Lib.hid (show Lst _ _ a3 c3 plan from hP.out (lstS a3 c3 plan) (by simp)); have hTb := Lib.hid (show TabIn _ from hP.out tabS (by simp)); (with_reducible refine (HMc.out _ hTk.out hLp.out hTb.out).mono ?_); rintro e wM ⟨rfl, hb⟩; have hP := Lib.hid (Alive.cons (twoS wM.heap.size (.int .i64 10) (.int .i64 (-8))) (two_new wM _ _ 27) ((hP.out.to hb).to ((Below.refl _ _).alloc (Nat.le_refl _) _))); clear hb; obtain ⟨_, t0, t1, t2, t3⟩ := (show TBox _ _ x from hP.out (boxS w.heap.size x) (by simp)); obtain ⟨_, k0, k1, f0, f1⟩ := (show Two _ wS.heap.size _ _ from hP.out (twoS wS.heap.size (.int .i64 10) (.int .i64 (-8))) (by simp)); obtain ⟨_, m0, m1, g0, g1⟩ := (show Two _ wM.heap.size _ _ from hP.out (twoS wM.heap.size (.int .i64 10) (.int .i64 (-8))) (by simp)))
      go_ret
      exact ⟨rfl, hP.out (belS w) (by simp)⟩
    case neg =>
      have e1 : mnF x plan = (0, 0) := by unfold mnF; rw [if_neg (by simpa using hs), if_neg hl]
      have e2 : mnB x plan = minL x x.n.toNat plan := by unfold mnB; rw [e1]; rfl
      have HV := Lib.hid (plF_val hpf)
      have hd : decide ((plan.length : Int) > 12) = false := by simp; omega
      have hd2 : decide ((12 : Int) < plan.length) = false := by simp; omega
      rw [e1, e2] at HMc
      clear hs e1 e2 hpf hsv e0
      go_enter Tryd.func4, Tryd.ntmps4
      go_wp2_with (first | (go_at_call 10; have hTb := Lib.hid (show TabIn _ from hP.out tabS (by simp)); (with_reducible refine (shortens_any hFl hRd hMn _ hTb.out).mono ?_); rintro e wH ⟨rfl, hb⟩; have hP := Lib.hid (hP.out.to hb); clear hb; obtain ⟨_, t0, t1, t2, t3⟩ := (show TBox _ _ x from hP.out (boxS w.heap.size x) (by simp)); skip) | (go_at_call 12; have hTk := Lib.hid (show TskIn _ _ x from hP.out (tskS x) (by simp)); have hLp := Lib.hid (show Lst _ _ a3 c3 plan from hP.out (lstS a3 c3 plan) (by simp)); (with_reducible refine (HSf.out _ hTk.out hLp.out).mono ?_); rintro e wS ⟨rfl, hb⟩; have HWS := Lib.hid (show TBox wS w.heap.size x from (hP.out.to hb) (boxS w.heap.size x) (by simp)).lt; have hP := Lib.hid (Alive.cons (twoS wS.heap.size (.int .i64 0) (.int .i64 0)) (two_new wS _ _ 27) ((hP.out.to hb).to ((Below.refl _ _).alloc (Nat.le_refl _) _))); clear hb; obtain ⟨_, t0, t1, t2, t3⟩ := (show TBox _ _ x from hP.out (boxS w.heap.size x) (by simp)); obtain ⟨_, k0, k1, f0, f1⟩ := (show Two _ wS.heap.size _ _ from hP.out (twoS wS.heap.size (.int .i64 0) (.int .i64 0)) (by simp))) | (go_at_call 17; have hTk := Lib.hid (show TskIn _ _ x from hP.out (tskS x) (by simp)); have hLp := Lib.hid (show Lst _ _ a3 c3 plan from hP.out (lstS a3 c3 plan) (by simp)); have hTb := Lib.hid (show TabIn _ from hP.out tabS (by simp)); (with_reducible refine (HMc.out _ hTk.out hLp.out hTb.out).mono ?_); rintro e wM ⟨rfl, hb⟩; have hP := Lib.hid (Alive.cons (twoS wM.heap.size (.int .i64 0) (.int .i64 0)) (two_new wM _ _ 27) ((hP.out.to hb).to ((Below.refl _ _).alloc (Nat.le_refl _) _))); clear hb; obtain ⟨_, t0, t1, t2, t3⟩ := (show TBox _ _ x from hP.out (boxS w.heap.size x) (by simp)); obtain ⟨_, k0, k1, f0, f1⟩ := (show Two _ wS.heap.size _ _ from hP.out (twoS wS.heap.size (.int .i64 0) (.int .i64 0)) (by simp)); obtain ⟨_, m0, m1, g0, g1⟩ := (show Two _ wM.heap.size _ _ from hP.out (twoS wM.heap.size (.int .i64 0) (.int .i64 0)) (by simp))) | (go_at_call 18; have hTk := Lib.hid (show TskIn _ _ x from hP.out (tskS x) (by simp)); have hLp := Lib.hid (show Lst _ _ a3 c3 plan from hP.out (lstS a3 c3 plan) (by simp)); (with_reducible refine (minimalOf_any x x.n.toNat HV.out.1 a3 c3 plan HV.out.2.2 HV.out.2.1 _ hTk.out hLp.out).mono ?_); rintro e wO ⟨rfl, hb⟩; have hP := Lib.hid (hP.out.to hb); clear hb; obtain ⟨_, t0, t1, t2, t3⟩ := (show TBox _ _ x from hP.out (boxS w.heap.size x) (by simp))))
      go_ret
      exact ⟨ret_bool (by simp), hP.out (belS w) (by simp)⟩
end Go.Proofs.YtkflidnclndpkaaDoor
