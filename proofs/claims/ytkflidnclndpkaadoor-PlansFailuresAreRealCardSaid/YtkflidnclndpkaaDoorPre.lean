/- ReducedFrom of the reference. -/
import Derived.Test.YtkflidnclndpkaaDoorPom
namespace Go.Proofs.YtkflidnclndpkaaDoor
open Go.RowKit
set_option linter.unusedSimpArgs false
set_option linter.unusedVariables false
set_option maxRecDepth 100000

set_option maxHeartbeats 4000000 in
theorem redFrom_any (x : Tsk) (n : Nat) (hv : Val x n) : ∀ (f : Nat) (plan : List Int) (i : Nat) (a3 : Option Addr) (c3 : Nat) (w : World), plan.length - i ≤ f → (a3 = none → c3 = 0) → planB x.ops.length plan = true → plan.length ≤ 60 → i ≤ 60 → TskIn w w.heap.size x → Lst w w.heap.size a3 c3 plan →
    Calls Tryd.prog 15 #[.agg #[.int .i64 x.n, .slice x.ai x.init.length x.ci, .slice x.ag x.goal.length x.cg, .slice x.ao x.ops.length x.co], .slice a3 plan.length c3, .int .i64 i] w (LsPost w (redN x n f plan i)) := by
  intro f
  induction f with
  | zero =>
    intro plan i a3 c3 w hf hA hpl h60 hi60 hX hL
    have hd : decide ((i : Int) ≥ (plan.length : Int)) = true := by simp; omega
    have hd2 : decide ((plan.length : Int) ≤ (i : Int)) = true := by simp; omega
    have HL := Lib.hid hL
    have HA3 := Lib.hid hA
    have hle : plan.length ≤ i := by omega
    clear hX hL hA hf
    go_enter Tryd.func15, Tryd.ntmps15
    go_wp2
    go_ret
    exact ⟨a3, c3, rfl, HL.out.to ((Below.refl _ _).alloc (Nat.le_refl _) _) (by simp), HA3.out, by go_grown⟩
  | succ f ih =>
    intro plan i a3 c3 w hf hA hpl h60 hi60 hX hL
    by_cases hi : i < plan.length
    case neg =>
      have hd : decide ((i : Int) ≥ (plan.length : Int)) = true := by simp; omega
      have hd2 : decide ((plan.length : Int) ≤ (i : Int)) = true := by simp; omega
      have HE := Lib.hid (redN_end (x := x) (n := n) (plan := plan) (i := i) (by omega) (f + 1))
      have HL := Lib.hid hL
      have HA3 := Lib.hid hA
      have hle : plan.length ≤ i := by omega
      clear hX hL hA hf ih hi
      go_enter Tryd.func15, Tryd.ntmps15
      go_wp2
      go_ret
      rw [HE.out]
      exact ⟨a3, c3, rfl, HL.out.to ((Below.refl _ _).alloc (Nat.le_refl _) _) (by simp), HA3.out, by go_grown⟩
    case pos =>
      have hd : decide ((i : Int) ≥ (plan.length : Int)) = false := by simp; omega
      have hd2 : decide ((plan.length : Int) ≤ (i : Int)) = false := by simp; omega
      have hnle : ¬ plan.length ≤ i := by omega
      have hwi : IntKind.i64.wrap ((i : Int) + 1) = (i : Int) + 1 := IntWalk.i64_in _ (by omega)
      have hol := omL_len (x := x) (n := n) hi
      have HPL := Lib.hid hpl
      have HV := Lib.hid hv
      have HA3 := Lib.hid hA
      have HPO := Lib.hid (planB_sub hpl (omL_sub (x := x) (n := n).trans (cut_sub plan i)))
      have hP := Lib.hid (Alive.cons (boxS w.heap.size x) (tbox_new w x 25) ((Alive.cons (tskS x) hX (Alive.cons (lstS a3 c3 plan) hL (Alive.cons (belS w) (Below.refl _ w) (Alive.nil w)))).to ((Below.refl _ _).alloc (Nat.le_refl _) (.cells #[.int .i64 x.n, .slice x.ai x.init.length x.ci, .slice x.ag x.goal.length x.cg, .slice x.ao x.ops.length x.co] 25))))
      cases hs : solB x n x.init (omL x n plan i)
      case true =>
        have HE := Lib.hid (redN_yes (x := x) (n := n) hi hs (f + 1) f (by omega) (by omega))
        have HR := Lib.hid (fun (a : Option Addr) (c : Nat) (W : World) (hA : a = none → c = 0) (hX : TskIn W W.heap.size x) (hL : Lst W W.heap.size a c (omL x n plan i)) => ih (omL x n plan i) i a c W (by omega) hA HPO.out (by omega) (by omega) hX hL)
        clear hX hL hA hf ih hpl hv hol
        go_enter Tryd.func15, Tryd.ntmps15
        go_wp2_with (first | (go_at_call 33; have hTk := Lib.hid (show TskIn _ _ x from hP.out (tskS x) (by simp)); have hLp := Lib.hid (show Lst _ _ a3 c3 plan from hP.out (lstS a3 c3 plan) (by simp)); (with_reducible refine (omitted_any x n HV.out a3 c3 plan HA3.out HPL.out h60 i hi _ hTk.out hLp.out).mono ?_); rintro e w2 ⟨al, cl, rfl, hl, hn, hb⟩; have HNL := Lib.hid hn; have hP := Lib.hid (Alive.cons (lstS al cl (omL x n plan i)) hl (hP.out.to hb)); clear hl hn hb; obtain ⟨_, t0, t1, t2, t3⟩ := (show TBox _ _ x from hP.out (boxS w.heap.size x) (by simp))) | (go_at_call 29; have hTk := Lib.hid (show TskIn _ _ x from hP.out (tskS x) (by simp)); have hLo := Lib.hid (show Lst _ _ al cl (omL x n plan i) from hP.out (lstS al cl (omL x n plan i)) (by simp)); (with_reducible refine (solves_any x n HV.out al cl (omL x n plan i) HPO.out _ hTk.out hLo.out).mono ?_); rintro e w3 ⟨rfl, hb⟩; have hP := Lib.hid (hP.out.to hb); clear hb; obtain ⟨_, t0, t1, t2, t3⟩ := (show TBox _ _ x from hP.out (boxS w.heap.size x) (by simp))) | (go_at_call 15; have hTk := Lib.hid (show TskIn _ _ x from hP.out (tskS x) (by simp)); have hLo := Lib.hid (show Lst _ _ al cl (omL x n plan i) from hP.out (lstS al cl (omL x n plan i)) (by simp)); (with_reducible refine (HR.out al cl _ HNL.out hTk.out hLo.out).mono ?_); rintro e w4 ⟨ar, cr, rfl, hl, hn, hb⟩; have hP := Lib.hid (hP.out.to hb); have HLR := Lib.hid hl; have HNR := Lib.hid hn; clear hl hn hb))
        go_ret
        rw [HE.out]
        exact ⟨ar, cr, rfl, HLR.out, HNR.out, hP.out (belS w) (by simp)⟩
      case false =>
        have HE := Lib.hid (redN_no (x := x) (n := n) hi hs (f + 1) f (by omega) (by omega))
        have HR := Lib.hid (fun (a : Option Addr) (c : Nat) (W : World) (hA : a = none → c = 0) (hX : TskIn W W.heap.size x) (hL : Lst W W.heap.size a c plan) => ih plan (i + 1) a c W (by omega) hA HPL.out h60 (by omega) hX hL)
        rw [show ((i + 1 : Nat) : Int) = (i : Int) + 1 from rfl] at HR
        clear hX hL hA hf ih hpl hv hol
        go_enter Tryd.func15, Tryd.ntmps15
        go_wp2_with (first | (go_at_call 33; have hTk := Lib.hid (show TskIn _ _ x from hP.out (tskS x) (by simp)); have hLp := Lib.hid (show Lst _ _ a3 c3 plan from hP.out (lstS a3 c3 plan) (by simp)); (with_reducible refine (omitted_any x n HV.out a3 c3 plan HA3.out HPL.out h60 i hi _ hTk.out hLp.out).mono ?_); rintro e w2 ⟨al, cl, rfl, hl, hn, hb⟩; have HNL := Lib.hid hn; have hP := Lib.hid (Alive.cons (lstS al cl (omL x n plan i)) hl (hP.out.to hb)); clear hl hn hb; obtain ⟨_, t0, t1, t2, t3⟩ := (show TBox _ _ x from hP.out (boxS w.heap.size x) (by simp))) | (go_at_call 29; have hTk := Lib.hid (show TskIn _ _ x from hP.out (tskS x) (by simp)); have hLo := Lib.hid (show Lst _ _ al cl (omL x n plan i) from hP.out (lstS al cl (omL x n plan i)) (by simp)); (with_reducible refine (solves_any x n HV.out al cl (omL x n plan i) HPO.out _ hTk.out hLo.out).mono ?_); rintro e w3 ⟨rfl, hb⟩; have hP := Lib.hid (hP.out.to hb); clear hb; obtain ⟨_, t0, t1, t2, t3⟩ := (show TBox _ _ x from hP.out (boxS w.heap.size x) (by simp))) | (go_at_call 15; have hTk := Lib.hid (show TskIn _ _ x from hP.out (tskS x) (by simp)); have hLp := Lib.hid (show Lst _ _ a3 c3 plan from hP.out (lstS a3 c3 plan) (by simp)); (with_reducible refine (HR.out a3 c3 _ HA3.out hTk.out hLp.out).mono ?_); rintro e w4 ⟨ar, cr, rfl, hl, hn, hb⟩; have hP := Lib.hid (hP.out.to hb); have HLR := Lib.hid hl; have HNR := Lib.hid hn; clear hl hn hb))
        go_ret
        rw [HE.out]
        exact ⟨ar, cr, rfl, HLR.out, HNR.out, hP.out (belS w) (by simp)⟩
end Go.Proofs.YtkflidnclndpkaaDoor
