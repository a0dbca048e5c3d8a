/- The law PlansReducedAreSolutions: the walk. -/
import Derived.Test.YtkflidnclndpkaaDoorPlf
namespace Go.Proofs.YtkflidnclndpkaaDoor
open Go.RowKit
set_option linter.unusedSimpArgs false
set_option linter.unusedVariables false
set_option maxRecDepth 100000

set_option maxHeartbeats 8000000 in
theorem redsol_any (hFl : FlC) (hRd : RdC) (hMn : MnC) (x : Tsk) (a3 : Option Addr) (c3 : Nat) (plan : List Int) (w : World) (hX : TskIn w w.heap.size x) (hL : Lst w w.heap.size a3 c3 plan) (hA : a3 = none → c3 = 0) (hT : TabIn w) :
    Calls Tryd.prog 5 #[.agg #[.int .i64 x.n, .slice x.ai x.init.length x.ci, .slice x.ag x.goal.length x.cg, .slice x.ao x.ops.length x.co], .slice a3 plan.length c3] w fun e w' => e = .returned (.bool true) ∧ Below w.heap.size w w' := by
  have hP := Lib.hid (Alive.cons (boxS w.heap.size x) (tbox_new w x 25) ((Alive.cons (tskS x) hX (Alive.cons (lstS a3 c3 plan) hL (Alive.cons tabS hT (Alive.cons (belS w) (Below.refl _ w) (Alive.nil w))))).to ((Below.refl _ _).alloc (Nat.le_refl _) (.cells #[.int .i64 x.n, .slice x.ai x.init.length x.ci, .slice x.ag x.goal.length x.cg, .slice x.ao x.ops.length x.co] 25))))
  have HRd := Lib.hid (fun (W : World) (hX : TskIn W W.heap.size x) (hL : Lst W W.heap.size a3 c3 plan) (hT : TabIn W) => hRd x a3 c3 plan W hX hL hA hT)
  clear hX hL hT
  by_cases hs : (soF x plan).1 = 0
  case neg =>
    have q1 : ((soF x plan).1 == 0) = false := by simpa using hs
    have q2 : ((soF x plan).1 != 0) = true := by simpa using hs
    have hlr : ((rdL x plan).length : Int) = 0 := by unfold rdL; rw [if_neg hs]; rfl
    have hlq : (((rdL x plan).length : Int) == 0) = true := by rw [hlr]; rfl
    clear hs
    go_enter Tryd.func5, Tryd.ntmps5
    go_wp2_with (first | (go_at_call 13; have hTk := Lib.hid (show TskIn _ _ x from hP.out (tskS x) (by simp)); have hLp := Lib.hid (show Lst _ _ a3 c3 plan from hP.out (lstS a3 c3 plan) (by simp)); have hTb := Lib.hid (show TabIn _ from hP.out tabS (by simp)); (with_reducible refine (HRd.out _ hTk.out hLp.out hTb.out).mono ?_); rintro e wR ⟨aR, cR, rfl, hl, _, hb⟩; have hP := Lib.hid (Alive.cons (twoS wR.heap.size (.int .i64 (soF x plan).1) (.int .i64 (soF x plan).2)) (two_new wR _ _ 27) ((Alive.cons (lstS aR cR (rdL x plan)) hl (hP.out.to hb)).to ((Below.refl _ _).alloc (Nat.le_refl _) _))); clear hl hb; obtain ⟨_, t0, t1, t2, t3⟩ := (show TBox _ _ x from hP.out (boxS w.heap.size x) (by simp)); obtain ⟨_, k0, k1, f0, f1⟩ := (show Two _ wR.heap.size _ _ from hP.out (twoS wR.heap.size (.int .i64 (soF x plan).1) (.int .i64 (soF x plan).2)) (by simp))) | (go_at_call 10; have hTb := Lib.hid (show TabIn _ from hP.out tabS (by simp)); (with_reducible refine (shortens_any hFl hRd hMn _ hTb.out).mono ?_); rintro e wH ⟨rfl, hb⟩; have hP := Lib.hid (hP.out.to hb); clear hb; obtain ⟨_, t0, t1, t2, t3⟩ := (show TBox _ _ x from hP.out (boxS w.heap.size x) (by simp)); obtain ⟨_, k0, k1, f0, f1⟩ := (show Two _ wR.heap.size _ _ from hP.out (twoS wR.heap.size (.int .i64 (soF x plan).1) (.int .i64 (soF x plan).2)) (by simp))))
    go_ret
    exact ⟨ret_bool (by simp [hlr]), hP.out (belS w) (by simp)⟩
  case pos =>
    obtain ⟨e0, hpf, hsv⟩ := soF_zero hs
    have eL : (rdL x plan) = redN x x.n.toNat plan.length plan 0 := by unfold rdL redL; rw [if_pos hs]
    have hsub : ((rdL x plan)).Sublist plan := by rw [eL]; exact red_sub _ _ _ _ _
    have hpl := plF_sub hpf hsub
    have hso : soF x (rdL x plan) = (0, 0) := by rw [eL]; exact soF_red hs
    have hsol := (soF_zero (by rw [hso] : (soF x (rdL x plan)).1 = 0)).2.2
    have hv := plF_val hpf
    have hcs := csum_sub hv.1 hsub hv.2.2
    have eA : coM x (rdL x plan) = csum x (rdL x plan) := by unfold coM; rw [if_pos (by rw [hpl]), costTo_sum]
    have eB : coM x plan = csum x plan := by unfold coM; rw [if_pos hpf, costTo_sum]
    have hcd : decide (coM x (rdL x plan) ≤ coM x plan) = true := by rw [eA, eB]; exact decide_eq_true hcs.2
    have eQ : (rdL x (rdL x plan)) = redN x x.n.toNat ((rdL x plan)).length (rdL x plan) 0 := by rw [rdL, if_pos (by rw [hso])]; rfl
    have HP1 := Lib.hid (part_sub hsub)
    have HP2 := Lib.hid (part_sub (show ((rdL x (rdL x plan))).Sublist (rdL x plan) by rw [eQ]; exact red_sub _ _ _ _ _))
    rw [e0] at HRd
    have HSv := Lib.hid (fun (a : Option Addr) (c : Nat) (W : World) (hX : TskIn W W.heap.size x) (hL : Lst W W.heap.size a c (rdL x plan)) => ssolves_any x a c (rdL x plan) W hX hL)
    rw [svB_of (by rw [hpl]), hsol, hpl] at HSv
    have HCa := Lib.hid (fun (a : Option Addr) (c : Nat) (W : World) (hX : TskIn W W.heap.size x) (hL : Lst W W.heap.size a c (rdL x plan)) => cost_any x a c (rdL x plan) W hX hL)
    rw [hpl] at HCa
    have HCb := Lib.hid (fun (W : World) (hX : TskIn W W.heap.size x) (hL : Lst W W.heap.size a3 c3 plan) => cost_any x a3 c3 plan W hX hL)
    rw [(plF_zero hpf).1] at HCb
    have HRa := Lib.hid (fun (a : Option Addr) (c : Nat) (W : World) (hX : TskIn W W.heap.size x) (hL : Lst W W.heap.size a c (rdL x plan)) (hA : a = none → c = 0) (hT : TabIn W) => hRd x a c (rdL x plan) W hX hL hA hT)
    rw [hso] at HRa
    generalize coM x (rdL x plan) = cA at HCa hcd
    generalize coM x plan = cB at HCb hcd
    clear hs e0 hpf hsv eL hsub hpl hso hsol hv hcs eA eB eQ
    go_enter Tryd.func5, Tryd.ntmps5
    go_wp2_with (first | (go_at_call 13; have hTk := Lib.hid (show TskIn _ _ x from hP.out (tskS x) (by simp)); have hLp := Lib.hid (show Lst _ _ a3 c3 plan from hP.out (lstS a3 c3 plan) (by simp)); have hTb := Lib.hid (show TabIn _ from hP.out tabS (by simp)); (with_reducible refine (HRd.out _ hTk.out hLp.out hTb.out).mono ?_); rintro e wR ⟨aR, cR, rfl, hl, hn, hb⟩; have HNR := Lib.hid hn; have hP := Lib.hid (Alive.cons (twoS wR.heap.size (.int .i64 0) (.int .i64 0)) (two_new wR _ _ 27) ((Alive.cons (lstS aR cR (rdL x plan)) hl (hP.out.to hb)).to ((Below.refl _ _).alloc (Nat.le_refl _) _))); clear hl hn hb; obtain ⟨_, t0, t1, t2, t3⟩ := (show TBox _ _ x from hP.out (boxS w.heap.size x) (by simp)); obtain ⟨_, k0, k1, f0, f1⟩ := (show Two _ wR.heap.size _ _ from hP.out (twoS wR.heap.size (.int .i64 0) (.int .i64 0)) (by simp))) | (go_at_call 10; have hTb := Lib.hid (show TabIn _ from hP.out tabS (by simp)); (with_reducible refine (shortens_any hFl hRd hMn _ hTb.out).mono ?_); rintro e wH ⟨rfl, hb⟩; have hP := Lib.hid (hP.out.to hb); clear hb; obtain ⟨_, t0, t1, t2, t3⟩ := (show TBox _ _ x from hP.out (boxS w.heap.size x) (by simp)); obtain ⟨_, k0, k1, f0, f1⟩ := (show Two _ wR.heap.size _ _ from hP.out (twoS wR.heap.size (.int .i64 0) (.int .i64 0)) (by simp))) | (go_at_call 19; have hTk := Lib.hid (show TskIn _ _ x from hP.out (tskS x) (by simp)); have hLr := Lib.hid (show Lst _ _ aR cR (rdL x plan) from hP.out (lstS aR cR (rdL x plan)) (by simp)); (with_reducible refine (HSv.out aR cR _ hTk.out hLr.out).mono ?_); rintro e wV ⟨rfl, hb⟩; have hP := Lib.hid (Alive.cons (twoS wV.heap.size (.int .i64 0) (.int .i64 0)) (two_new wV _ _ 27) ((hP.out.to hb).to ((Below.refl _ _).alloc (Nat.le_refl _) _))); clear hb; obtain ⟨_, t0, t1, t2, t3⟩ := (show TBox _ _ x from hP.out (boxS w.heap.size x) (by simp))) | (go_at_call 20; have hTk := Lib.hid (show TskIn _ _ x from hP.out (tskS x) (by simp)); have hLr := Lib.hid (show Lst _ _ aR cR (rdL x plan) from hP.out (lstS aR cR (rdL x plan)) (by simp)); (with_reducible refine (HCa.out aR cR _ hTk.out hLr.out).mono ?_); rintro e wA ⟨rfl, hb⟩; have hP := Lib.hid (Alive.cons (twoS wA.heap.size (.int .i64 0) (.int .i64 0)) (two_new wA _ _ 27) ((hP.out.to hb).to ((Below.refl _ _).alloc (Nat.le_refl _) _))); clear hb; obtain ⟨_, t0, t1, t2, t3⟩ := (show TBox _ _ x from hP.out (boxS w.heap.size x) (by simp))) | (go_at_call 20; have hTk := Lib.hid (show TskIn _ _ x from hP.out (tskS x) (by simp)); have hLp := Lib.hid (show Lst _ _ a3 c3 plan from hP.out (lstS a3 c3 plan) (by simp)); (with_reducible refine (HCb.out _ hTk.out hLp.out).mono ?_); rintro e wB ⟨rfl, hb⟩; have hP := Lib.hid (Alive.cons (twoS wB.heap.size (.int .i64 0) (.int .i64 0)) (two_new wB _ _ 27) ((hP.out.to hb).to ((Below.refl _ _).alloc (Nat.le_refl _) _))); clear hb; obtain ⟨_, t0, t1, t2, t3⟩ := (show TBox _ _ x from hP.out (boxS w.heap.size x) (by simp))) | (go_at_call 13; have hTk := Lib.hid (show TskIn _ _ x from hP.out (tskS x) (by simp)); have hLr := Lib.hid (show Lst _ _ aR cR (rdL x plan) from hP.out (lstS aR cR (rdL x plan)) (by simp)); have hTb := Lib.hid (show TabIn _ from hP.out tabS (by simp)); (with_reducible refine (HRa.out aR cR _ hTk.out hLr.out HNR.out hTb.out).mono ?_); rintro e wQ ⟨aQ, cQ, rfl, hl, hn, hb⟩; have hP := Lib.hid (Alive.cons (twoS wQ.heap.size (.int .i64 0) (.int .i64 0)) (two_new wQ _ _ 27) ((Alive.cons (lstS aQ cQ (rdL x (rdL x plan))) hl (hP.out.to hb)).to ((Below.refl _ _).alloc (Nat.le_refl _) _))); clear hl hn hb; obtain ⟨_, t0, t1, t2, t3⟩ := (show TBox _ _ x from hP.out (boxS w.heap.size x) (by simp)); obtain ⟨_, b0, b1, _, _⟩ := (show Two _ wV.heap.size _ _ from hP.out (twoS wV.heap.size (.int .i64 0) (.int .i64 0)) (by simp)); obtain ⟨_, b2, b3, _, _⟩ := (show Two _ wA.heap.size _ _ from hP.out (twoS wA.heap.size (.int .i64 0) (.int .i64 0)) (by simp)); obtain ⟨_, b4, b5, _, _⟩ := (show Two _ wB.heap.size _ _ from hP.out (twoS wB.heap.size (.int .i64 0) (.int .i64 0)) (by simp)); obtain ⟨_, b6, b7, _, _⟩ := (show Two _ wQ.heap.size _ _ from hP.out (twoS wQ.heap.size (.int .i64 0) (.int .i64 0)) (by simp))) | (go_at_call 21; have hLr := Lib.hid (show Lst _ _ aR cR (rdL x plan) from hP.out (lstS aR cR (rdL x plan)) (by simp)); have hLp := Lib.hid (show Lst _ _ a3 c3 plan from hP.out (lstS a3 c3 plan) (by simp)); (with_reducible refine (part_any aR a3 cR c3 (rdL x plan) plan _ hLr.out hLp.out).mono ?_); rintro e wC ⟨rfl, hb⟩; have hP := Lib.hid (hP.out.to hb); clear hb; obtain ⟨_, t0, t1, t2, t3⟩ := (show TBox _ _ x from hP.out (boxS w.heap.size x) (by simp)); rw [HP1.out]) | (go_at_call 21; have hLr := Lib.hid (show Lst _ _ aR cR (rdL x plan) from hP.out (lstS aR cR (rdL x plan)) (by simp)); have hLq := Lib.hid (show Lst _ _ aQ cQ (rdL x (rdL x plan)) from hP.out (lstS aQ cQ (rdL x (rdL x plan))) (by simp)); (with_reducible refine (part_any aQ aR cQ cR (rdL x (rdL x plan)) (rdL x plan) _ hLq.out hLr.out).mono ?_); rintro e wD ⟨rfl, hb⟩; have hP := Lib.hid (hP.out.to hb); clear hb; obtain ⟨_, t0, t1, t2, t3⟩ := (show TBox _ _ x from hP.out (boxS w.heap.size x) (by simp)); rw [HP2.out]))
    go_ret
    exact ⟨rfl, hP.out (belS w) (by simp)⟩
end Go.Proofs.YtkflidnclndpkaaDoor
