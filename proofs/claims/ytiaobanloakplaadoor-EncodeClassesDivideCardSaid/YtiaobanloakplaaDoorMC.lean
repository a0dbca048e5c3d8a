/- Mzv, Mzc, Mzd in one text. -/
import Derived.Test.YtiaobanloakplaaDoorMzb
import Derived.Test.YtiaobanloakplaaDoorMB

/- operatorCode, Validate and check of package multi. -/
section
namespace Go.Proofs.YtiaobanloakplaaDoor
open Go.RowKit
set_option linter.unusedSimpArgs false
set_option linter.unusedVariables false
set_option maxRecDepth 100000

set_option maxHeartbeats 2000000 in
theorem mopCode_any (A a1 a2 : Option Addr) (c c1 c2 : Nat) (S : List Int) (o : MOp) (w : World) (hS : Lst w w.heap.size A c S) (h1 : AsgL w w.heap.size a1 c1 o.pre) (h2 : AsgL w w.heap.size a2 c2 o.post) :
    Calls Tryd.prog 58 #[.slice A S.length c, .agg #[.slice a1 o.pre.length c1, .slice a2 o.post.length c2, .int .i64 o.cost]] w fun e w' => e = .returned (.int .i64 (mcode S o)) ∧ Below w.heap.size w w' := by
  have hQ := Lib.hid (al_b w (.cells #[.slice a1 o.pre.length c1, .slice a2 o.post.length c2, .int .i64 o.cost] 75))
  have hO := Lib.hid (tri_new w (.slice a1 o.pre.length c1) (.slice a2 o.post.length c2) (.int .i64 o.cost) 75)
  have HP1 := Lib.hid (areAssign_any A a1 c c1 S o.pre _ (hS.to hQ.out hQ.out.size) (h1.to hQ.out hQ.out.size))
  have HP2 := Lib.hid (fun (W : World) (h : Below w.heap.size w W) => areAssign_any A a2 c c2 S o.post W (hS.to h h.size) (h2.to h h.size))
  clear hS h1 h2
  have hmc : mcode S o = if asB S o.pre && asB S o.post then (if inB o.cost 0 100 then 0 else 3) else 5 := rfl
  cases h1 : asB S o.pre
  · rw [h1] at hmc HP1
    have H := Lib.hid (show mcode S o = 5 from hmc)
    clear hmc h1
    go_enter Tryd.func58, Tryd.ntmps58
    go_wp2_with (go_at_call 57; (with_reducible refine HP1.out.mono ?_); rintro e w6 ⟨rfl, hb⟩; have hO := Lib.hid (hO.out.to hb); have hQ := Lib.hid (hQ.out.trans (hb.mono hQ.out.size)); clear hb; obtain ⟨_, z0, z1, z2⟩ := hO.out)
    go_ret
    exact ⟨ret_int H.out.symm, hQ.out⟩
  rw [h1] at hmc HP1
  cases h2 : asB S o.post
  · rw [h2] at hmc HP2
    have H := Lib.hid (show mcode S o = 5 from hmc)
    clear hmc h1 h2
    go_enter Tryd.func58, Tryd.ntmps58
    go_wp2_with (first | (go_at_call 57; (with_reducible refine HP1.out.mono ?_); rintro e w6 ⟨rfl, hb⟩; have hO := Lib.hid (hO.out.to hb); have hQ := Lib.hid (hQ.out.trans (hb.mono hQ.out.size)); clear hb; obtain ⟨_, z0, z1, z2⟩ := hO.out) | (go_at_call 57; (with_reducible refine (HP2.out _ hQ.out).mono ?_); rintro e w7 ⟨rfl, hb⟩; have hO := Lib.hid (hO.out.to hb); have hQ := Lib.hid (hQ.out.trans (hb.mono hQ.out.size)); clear hb; obtain ⟨_, z0, z1, z2⟩ := hO.out))
    go_ret
    exact ⟨ret_int H.out.symm, hQ.out⟩
  rw [h2] at hmc HP2
  have hmc : mcode S o = if inB o.cost 0 100 then 0 else 3 := hmc
  by_cases h3 : o.cost < 0
  · have H := Lib.hid (show mcode S o = 3 by rw [hmc, inB_no (fun h => by omega)]; rfl)
    have hd : decide (o.cost < 0) = true := decide_eq_true h3
    clear hmc h1 h2
    go_enter Tryd.func58, Tryd.ntmps58
    go_wp2_with (first | (go_at_call 57; (with_reducible refine HP1.out.mono ?_); rintro e w6 ⟨rfl, hb⟩; have hO := Lib.hid (hO.out.to hb); have hQ := Lib.hid (hQ.out.trans (hb.mono hQ.out.size)); clear hb; obtain ⟨_, z0, z1, z2⟩ := hO.out) | (go_at_call 57; (with_reducible refine (HP2.out _ hQ.out).mono ?_); rintro e w7 ⟨rfl, hb⟩; have hO := Lib.hid (hO.out.to hb); have hQ := Lib.hid (hQ.out.trans (hb.mono hQ.out.size)); clear hb; obtain ⟨_, z0, z1, z2⟩ := hO.out))
    go_ret
    exact ⟨ret_int H.out.symm, hQ.out⟩
  have hd : decide (o.cost < 0) = false := decide_eq_false h3
  by_cases h4 : 100 < o.cost
  · have H := Lib.hid (show mcode S o = 3 by rw [hmc, inB_no (fun h => by omega)]; rfl)
    have hd2 : decide (100 < o.cost) = true := decide_eq_true h4
    clear hmc h1 h2
    go_enter Tryd.func58, Tryd.ntmps58
    go_wp2_with (first | (go_at_call 57; (with_reducible refine HP1.out.mono ?_); rintro e w6 ⟨rfl, hb⟩; have hO := Lib.hid (hO.out.to hb); have hQ := Lib.hid (hQ.out.trans (hb.mono hQ.out.size)); clear hb; obtain ⟨_, z0, z1, z2⟩ := hO.out) | (go_at_call 57; (with_reducible refine (HP2.out _ hQ.out).mono ?_); rintro e w7 ⟨rfl, hb⟩; have hO := Lib.hid (hO.out.to hb); have hQ := Lib.hid (hQ.out.trans (hb.mono hQ.out.size)); clear hb; obtain ⟨_, z0, z1, z2⟩ := hO.out))
    go_ret
    exact ⟨ret_int H.out.symm, hQ.out⟩
  · have H := Lib.hid (show mcode S o = 0 by rw [hmc, inB_iff.2 (show 0 ≤ o.cost ∧ o.cost ≤ 100 by omega)]; rfl)
    have hd2 : decide (100 < o.cost) = false := decide_eq_false h4
    clear hmc h1 h2
    go_enter Tryd.func58, Tryd.ntmps58
    go_wp2_with (first | (go_at_call 57; (with_reducible refine HP1.out.mono ?_); rintro e w6 ⟨rfl, hb⟩; have hO := Lib.hid (hO.out.to hb); have hQ := Lib.hid (hQ.out.trans (hb.mono hQ.out.size)); clear hb; obtain ⟨_, z0, z1, z2⟩ := hO.out) | (go_at_call 57; (with_reducible refine (HP2.out _ hQ.out).mono ?_); rintro e w7 ⟨rfl, hb⟩; have hO := Lib.hid (hO.out.to hb); have hQ := Lib.hid (hQ.out.trans (hb.mono hQ.out.size)); clear hb; obtain ⟨_, z0, z1, z2⟩ := hO.out))
    go_ret
    exact ⟨ret_int H.out.symm, hQ.out⟩

set_option maxHeartbeats 4000000 in
theorem mvalidate_any (x : MT) (w : World) (hX : MTIn w w.heap.size x) :
    Calls Tryd.prog 21 #[.agg #[.slice x.az x.sizes.length x.cz, .slice x.ai x.init.length x.ci, .slice x.ag x.goal.length x.cg, .slice x.ao x.ops.length x.co]] w fun e w' => e = .returned (faultV (mfF x)) ∧ Below w.heap.size w w' := by
  have hns := hX.sizes.len
  have hno := Nat.le_trans hX.ops.le hX.ops.max
  unfold maxLen at hns hno
  have hF := Lib.hid (frM_new w x 38 28)
  have HX0 := Lib.hid (fun (W : World) (h : Below w.heap.size w W) => hX.to h h.size)
  have HSZ := Lib.hid (containsI_any x.az x.cz x.sizes _ (HX0.out _ hF.out.below).sizes)
  have HMS := Lib.hid (isState_any x.az x.ai x.cz x.ci x.sizes x.init _ (HX0.out _ hF.out.below).sizes (HX0.out _ hF.out.below).init)
  have HAG := Lib.hid (areAssign_any x.az x.ag x.cz x.cg x.sizes x.goal _ (HX0.out _ hF.out.below).sizes (HX0.out _ hF.out.below).goal)
  clear hX
  by_cases h0 : x.sizes.length = 0
  · have H := Lib.hid (show mfF x = (2, -1) by unfold mfF; rw [if_pos (by omega)])
    have hq : ((x.sizes.length : Int) == 0) = true := by rw [h0]; rfl
    clear h0
    go_enter Tryd.func21, Tryd.ntmps21
    go_wp2
    go_returns
    exact ⟨ret_val (by rw [H.out]), by go_grown⟩
  have hq : ((x.sizes.length : Int) == 0) = false := beq_eq_false_iff_ne.2 (by omega)
  by_cases h8 : 8 < x.sizes.length
  · have H := Lib.hid (show mfF x = (2, -1) by unfold mfF; rw [if_pos (by omega)])
    have hd : decide ((8 : Int) < (x.sizes.length : Int)) = true := by simp; omega
    clear h0 h8
    go_enter Tryd.func21, Tryd.ntmps21
    go_wp2
    go_returns
    exact ⟨ret_val (by rw [H.out]), by go_grown⟩
  have hd : decide ((8 : Int) < (x.sizes.length : Int)) = false := by simp; omega
  have h18 := Lib.hid (show 1 ≤ x.sizes.length ∧ x.sizes.length ≤ 8 by omega)
  clear h0 h8
  cases hz : szB x.sizes
  · have H := Lib.hid (show mfF x = (3, -1) by have := h18.out; unfold mfF; rw [if_neg (by omega), if_pos hz])
    rw [hz] at HSZ
    clear hz
    go_enter Tryd.func21, Tryd.ntmps21
    go_wp2_with (go_at_call 55; (with_reducible refine HSZ.out.mono ?_); rintro e w4 ⟨rfl, rfl⟩)
    go_returns
    exact ⟨ret_val (by rw [H.out]), by go_grown⟩
  rw [hz] at HSZ
  cases hm : msB x.sizes x.init
  · have H := Lib.hid (show mfF x = (5, -2) by have := h18.out; unfold mfF; rw [if_neg (by omega), if_neg (by simp [hz]), if_pos hm])
    rw [hm] at HMS
    clear hz hm
    go_enter Tryd.func21, Tryd.ntmps21
    go_wp2_with (first | (go_at_call 55; (with_reducible refine HSZ.out.mono ?_); rintro e w4 ⟨rfl, rfl⟩) | (go_at_call 56; (with_reducible refine HMS.out.mono ?_); rintro e w5 ⟨rfl, rfl⟩))
    go_returns
    exact ⟨ret_val (by rw [H.out]), by go_grown⟩
  rw [hm] at HMS
  cases hg : asB x.sizes x.goal
  · have H := Lib.hid (show mfF x = (5, -3) by have := h18.out; unfold mfF; rw [if_neg (by omega), if_neg (by simp [hz]), if_neg (by simp [hm]), if_pos hg])
    rw [hg] at HAG
    clear hz hm hg
    go_enter Tryd.func21, Tryd.ntmps21
    go_wp2_with (first | (go_at_call 55; (with_reducible refine HSZ.out.mono ?_); rintro e w4 ⟨rfl, rfl⟩) | (go_at_call 56; (with_reducible refine HMS.out.mono ?_); rintro e w5 ⟨rfl, rfl⟩) | (go_at_call 57; (with_reducible refine HAG.out.mono ?_); rintro e w6 ⟨rfl, hb⟩; have hF := Lib.hid (hF.out.to hb); clear hb; obtain ⟨_, ⟨_, t0, t1, t2, t3⟩, ⟨_, k0, k1, f0, f1⟩⟩ := hF.out))
    refine post_fault (g := w.heap.size + 1) (x := .int .i64 5) (y := .int .i64 (-3)) Tryd.results21 rfl (hF.out.two.set _ _) ?_
    exact ⟨ret_val (by rw [H.out]), (hF.out.below.setCell (by simp) _).setCell (by simp) _⟩
  rw [hg] at HAG
  by_cases h40 : 40 < x.ops.length
  case pos =>
    have H := Lib.hid (show mfF x = (2, -1) by have := h18.out; unfold mfF; rw [if_neg (by omega), if_neg (by simp [hz]), if_neg (by simp [hm]), if_neg (by simp [hg]), if_pos h40])
    have hd40 : decide ((40 : Int) < (x.ops.length : Int)) = true := by simp; omega
    clear hz hm hg h40
    go_enter Tryd.func21, Tryd.ntmps21
    go_wp2_with (first | (go_at_call 55; (with_reducible refine HSZ.out.mono ?_); rintro e w4 ⟨rfl, rfl⟩) | (go_at_call 56; (with_reducible refine HMS.out.mono ?_); rintro e w5 ⟨rfl, rfl⟩) | (go_at_call 57; (with_reducible refine HAG.out.mono ?_); rintro e w6 ⟨rfl, hb⟩; have hF := Lib.hid (hF.out.to hb); clear hb; obtain ⟨_, ⟨_, t0, t1, t2, t3⟩, ⟨_, k0, k1, f0, f1⟩⟩ := hF.out))
    refine post_fault (g := w.heap.size + 1) (x := .int .i64 2) (y := .int .i64 (-1)) Tryd.results21 rfl (hF.out.two.set _ _) ?_
    exact ⟨ret_val (by rw [H.out]), (hF.out.below.setCell (by simp) _).setCell (by simp) _⟩
  have hd40 : decide ((40 : Int) < (x.ops.length : Int)) = false := by simp; omega
  have HG := Lib.hid (fun h0 => mf_good h18.out.1 h18.out.2 hz hm hg (by omega) h0)
  have HBD := Lib.hid (fun (k : Nat) hk h0 h => mf_bad (k := k) h18.out.1 h18.out.2 hz hm hg (by omega) hk h0 h)
  clear hz hm hg h40
  go_enter Tryd.func21, Tryd.ntmps21
  go_wp2_with (first | (go_at_call 55; (with_reducible refine HSZ.out.mono ?_); rintro e w4 ⟨rfl, rfl⟩) | (go_at_call 56; (with_reducible refine HMS.out.mono ?_); rintro e w5 ⟨rfl, rfl⟩) | (go_at_call 57; (with_reducible refine HAG.out.mono ?_); rintro e w6 ⟨rfl, hb⟩; have hF := Lib.hid (hF.out.to hb); clear hb; obtain ⟨_, ⟨_, t0, t1, t2, t3⟩, ⟨_, k0, k1, f0, f1⟩⟩ := hF.out))
  clear hd40 hd hq
  go_loopw [50] (fun i wr => ∃ k : Nat, k ≤ x.ops.length ∧ i = .int .i64 k ∧ (∀ j, j < k → mcode x.sizes (mop x.ops j) = 0) ∧ FrM w wr x 0 0) (fun i _ => x.ops.length - (intOf i).toNat)
  case atStart => exact ⟨0, by omega, rfl, fun j h => by omega, hF.out⟩
  case round =>
    clear t0 t1 t2 t3 k0 k1 f0 f1 HSZ HMS HAG
    clear hF
    obtain ⟨k, hk, rfl, hj, hf⟩ := hrel
    have HJ := Lib.hid hj
    have hF := Lib.hid hf
    clear hj hf
    obtain ⟨_, ⟨_, t0, t1, t2, t3⟩, ⟨_, k0, k1, f0, f1⟩⟩ := hF.out
    by_cases hlt : k < x.ops.length
    case neg =>
      have H := Lib.hid (HG.out (fun j hj => HJ.out j (by omega)))
      have hge : ¬ ((k : Int) < x.ops.length) := by omega
      go_wp2
      refine post_fault (g := w.heap.size + 1) (x := .int .i64 0) (y := .int .i64 0) Tryd.results21 rfl (hF.out.two.set _ _) ?_
      exact ⟨ret_val (by rw [H.out]), (hF.out.below.setCell (by simp) _).setCell (by simp) _⟩
    obtain ⟨b, p, a1, a2, c1, c2, hao, hbl, ⟨q0, q1, q2⟩, hpre, hpost⟩ := (HX0.out _ hF.out.below).ops.at_ hlt
    rw [hao]
    have HBAD := Lib.hid (fun h => HBD.out k hlt HJ.out h)
    have HST := Lib.hid (fun h => all_step (p := fun j => mcode x.sizes (mop x.ops j) = 0) HJ.out h)
    clear hao
    generalize mop x.ops k = o at *
    have hal := al_b wr (.cells #[.slice a1 o.pre.length c1, .slice a2 o.post.length c2, .int .i64 o.cost] 75)
    have hF := Lib.hid (hF.out.to hal)
    have HOC := Lib.hid (mopCode_any x.az a1 a2 x.cz c1 c2 x.sizes o _ (HX0.out _ hF.out.below).sizes (hpre.to hal hal.size) (hpost.to hal hal.size))
    clear hpre hpost hal
    by_cases hcode : mcode x.sizes o = 0
    · have H0 := Lib.hid hcode
      have hne : (mcode x.sizes o != 0) = false := by simpa using hcode
      clear hcode
      go_wp2_with (go_at_call 58; (with_reducible refine HOC.out.mono ?_); rintro e w7 ⟨rfl, hb⟩; have hF := Lib.hid (hF.out.to hb); clear hb; obtain ⟨_, ⟨_, t0, t1, t2, t3⟩, ⟨_, k0, k1, f0, f1⟩⟩ := hF.out)
      go_roundw
      case rel => exact ⟨k + 1, by omega, by go_num, HST.out H0.out, hF.out⟩
      case measure => simp [intOf]; omega
    · have H := Lib.hid (HBAD.out hcode)
      have hne : (mcode x.sizes o != 0) = true := by simpa using hcode
      clear hcode
      go_wp2_with (go_at_call 58; (with_reducible refine HOC.out.mono ?_); rintro e w7 ⟨rfl, hb⟩; have hF := Lib.hid (hF.out.to hb); clear hb; obtain ⟨_, ⟨_, t0, t1, t2, t3⟩, ⟨_, k0, k1, f0, f1⟩⟩ := hF.out)
      refine post_fault (g := w.heap.size + 1) (x := .int .i64 (mcode x.sizes o)) (y := .int .i64 k) Tryd.results21 rfl (hF.out.two.set _ _) ?_
      exact ⟨ret_val (by rw [H.out]), (hF.out.below.setCell (by simp) _).setCell (by simp) _⟩

/-- The fault of a task, a state and a plan. -/
def ckM (x : MT) (s plan : List Int) : Int × Int := if (mfF x).1 ≠ 0 then mfF x else if msB x.sizes s = false then (5, -4) else spF x.ops.length plan
set_option maxHeartbeats 2000000 in
theorem mcheck_any (x : MT) (A A2 : Option Addr) (c c2 : Nat) (s plan : List Int) (w : World) (hX : MTIn w w.heap.size x) (hS : Lst w w.heap.size A c s) (hP : Lst w w.heap.size A2 c2 plan) :
    Calls Tryd.prog 59 #[.agg #[.slice x.az x.sizes.length x.cz, .slice x.ai x.init.length x.ci, .slice x.ag x.goal.length x.cg, .slice x.ao x.ops.length x.co], .slice A s.length c, .slice A2 plan.length c2] w fun e w' => e = .returned (faultV (ckM x s plan)) ∧ Below w.heap.size w w' := by
  have hF := Lib.hid (frM_new w x 38 28)
  have HVA := Lib.hid (mvalidate_any x _ (hX.to hF.out.below hF.out.below.size))
  have hmo := Nat.le_trans hX.ops.le hX.ops.max
  have HIS := Lib.hid (fun (W : World) (h : Below w.heap.size w W) => isState_any x.az A x.cz c x.sizes s W (hX.sizes.to h h.size) (hS.to h h.size))
  have HPF := Lib.hid (fun (W : World) (h : Below w.heap.size w W) => planF_any x.ops.length hmo A2 c2 plan W (hP.to h h.size))
  clear hX hS hP hmo
  by_cases hn : (mfF x).1 = 0
  case neg =>
    have H := Lib.hid (show ckM x s plan = mfF x by unfold ckM; rw [if_pos hn])
    have hne : ((mfF x).1 != 0) = true := by simpa using hn
    have hne2 : ((mfF x).1 == 0) = false := by simpa using hn
    clear hn
    go_enter Tryd.func59, Tryd.ntmps59
    go_wp2_with (go_at_call 21; (with_reducible refine HVA.out.mono ?_); rintro e w1 ⟨rfl, hb1⟩; have hF := Lib.hid ((hF.out.to hb1).to (al_b w1 (.cells #[.int .i64 (mfF x).1, .int .i64 (mfF x).2] 28))); obtain ⟨_, ⟨_, t0, t1, t2, t3⟩, ⟨_, k0, k1, f0, f1⟩⟩ := hF.out; clear hb1)
    refine post_fault (g := w.heap.size + 1) (x := .int .i64 (mfF x).1) (y := .int .i64 (mfF x).2) Tryd.results59 rfl (hF.out.two.set _ _) ?_
    exact ⟨ret_val (by rw [H.out]), (hF.out.below.setCell (by simp) _).setCell (by simp) _⟩
  have hz := (mf_val hn).2
  rw [hz] at HVA
  cases hm : msB x.sizes s
  · have H := Lib.hid (show ckM x s plan = (5, -4) by unfold ckM; rw [if_neg (by simp [hn]), if_pos hm])
    rw [hm] at HIS
    clear hn hz hm
    go_enter Tryd.func59, Tryd.ntmps59
    go_wp2_with (first | (go_at_call 21; (with_reducible refine HVA.out.mono ?_); rintro e w1 ⟨rfl, hb1⟩; have hF := Lib.hid ((hF.out.to hb1).to (al_b w1 (.cells #[.int .i64 0, .int .i64 0] 28))); obtain ⟨_, ⟨_, t0, t1, t2, t3⟩, ⟨_, k0, k1, f0, f1⟩⟩ := hF.out; clear hb1) | (go_at_call 56; (with_reducible refine (HIS.out _ hF.out.below).mono ?_); rintro e w5 ⟨rfl, rfl⟩))
    refine post_fault (g := w.heap.size + 1) (x := .int .i64 5) (y := .int .i64 (-4)) Tryd.results59 rfl (hF.out.two.set _ _) ?_
    exact ⟨ret_val (by rw [H.out]), (hF.out.below.setCell (by simp) _).setCell (by simp) _⟩
  · have H := Lib.hid (show ckM x s plan = spF x.ops.length plan by unfold ckM; rw [if_neg (by simp [hn]), if_neg (by simp [hm])])
    rw [hm] at HIS
    clear hn hz hm
    generalize spF x.ops.length plan = r at *
    go_enter Tryd.func59, Tryd.ntmps59
    go_wp2_with (first | (go_at_call 21; (with_reducible refine HVA.out.mono ?_); rintro e w1 ⟨rfl, hb1⟩; have hF := Lib.hid ((hF.out.to hb1).to (al_b w1 (.cells #[.int .i64 0, .int .i64 0] 28))); obtain ⟨_, ⟨_, t0, t1, t2, t3⟩, ⟨_, k0, k1, f0, f1⟩⟩ := hF.out; clear hb1) | (go_at_call 56; (with_reducible refine (HIS.out _ hF.out.below).mono ?_); rintro e w5 ⟨rfl, rfl⟩) | (go_at_call 80; (with_reducible refine (HPF.out _ hF.out.below).mono ?_); rintro e w6 ⟨rfl, hb⟩; have hF := Lib.hid (hF.out.to hb); clear hb; obtain ⟨_, ⟨_, t0, t1, t2, t3⟩, ⟨_, k0, k1, f0, f1⟩⟩ := hF.out))
    refine post_fault (g := w.heap.size + 1) (x := .int .i64 r.1) (y := .int .i64 r.2) Tryd.results59 rfl (hF.out.two.set _ _) ?_
    exact ⟨ret_val (by rw [H.out]), (hF.out.below.setCell (by simp) _).setCell (by simp) _⟩
end Go.Proofs.YtiaobanloakplaaDoor
end

/- holds and step of package multi. -/
section
namespace Go.Proofs.YtiaobanloakplaaDoor
open Go.RowKit
set_option linter.unusedSimpArgs false
set_option linter.unusedVariables false
set_option maxRecDepth 100000


theorem own_l2 {w : World} {base : Nat} {a : Option Addr} {c : Nat} {l : List Int} (h : w.ownsRow base 3 1 (.slice a l.length c) l.length (l.map (Value.int .i64))) : Lst w w.heap.size a c l := by
  obtain ⟨a', c', e, hl, _⟩ := own_lst h
  cases e
  exact hl
theorem clone_any (A : Option Addr) (c : Nat) (l : List Int) (w : World) (hL : Lst w w.heap.size A c l) (h0 : A = none → c = 0) (hlen : l.length ≤ 200) :
    Calls Tryd.prog 60 #[.slice A l.length c] w (CopyPost w l) := by
  cases A with
  | none =>
    have hl0 : l = [] := by
      refine List.eq_nil_of_length_eq_zero ?_
      by_cases h1 : 0 < l.length
      · obtain ⟨b, o, e, _⟩ := hL.nums h1
        cases e
      · omega
    subst hl0
    clear hL
    have hq : ∀ W : World, (binOp .eql 22 (.slice none 0 c) (.slice none 0 0)).run Tryd.prog W = .ok (.bool true) W := fun W => run_eql_slice_nil W _ _ none 0 c Tryd.underlying22
    obtain rfl := h0 rfl
    go_enter Tryd.func60, Tryd.ntmps60
    go_wp2
    go_ret
    exact ⟨_, rfl, World.ownsRow_nil _ _ _ _, Below.refl _ _⟩
  | some ad =>
    have HB := Lib.hid (show Below w.heap.size w (w.alloc (.cells #[] 3)) by go_grown)
    have HL := Lib.hid (hL.to HB.out HB.out.size)
    have HO := Lib.hid (World.ownsRow_lit (base := w.heap.size) (e := 3) (size := 1) w #[] 0 (Nat.le_refl _) (by simp [maxLen]) rfl)
    clear hL h0
    have hq : ∀ W : World, (binOp .eql 22 (.slice (some ad) l.length c) (.slice none 0 0)).run Tryd.prog W = .ok (.bool false) W := fun W => run_eql_slice_nil W _ _ (some ad) l.length c Tryd.underlying22
    go_enter Tryd.func60, Tryd.ntmps60
    go_wp2_with (at_builtin; refine wpList_append_lst _ rfl _ _ rfl w.heap.size (.slice (some ⟨w.heap.size, 0, none⟩) 0 0) [] rfl HO.out (some ad) c l rfl HL.out (fun h => by cases h) (by simp; omega) (by simp) ?_)
    intro v' w1 hown hg
    have HO2 := Lib.hid hown
    have HG := Lib.hid hg
    clear hown hg
    go_wp2
    go_ret
    exact ⟨_, rfl, by simpa using HO2.out, HB.out.grown HG.out (by simp) (fun q hq => by simp [Value.ownBlock] at hq; omega)⟩
set_option maxHeartbeats 400000 in
theorem differs_any (a : Asg) (A : Option Addr) (c : Nat) (s : List Int) (bx : Nat) (w : World) (hv : 0 ≤ a.v ∧ a.v < s.length) (hS : Lst w w.heap.size A c s) (hb : bx < w.heap.size) (hc : w.cell? ⟨bx, 0, none⟩ = some (.slice A s.length c)) :
    Calls Tryd.prog 81 #[.agg #[.int .i64 a.v, .int .i64 a.x], .pointer (some ⟨bx, 0, none⟩)] w fun e w' => e = .returned (.bool (!decide (ix s a.v.toNat = a.x))) ∧ Below w.heap.size w w' := by
  have hls := hS.len
  unfold maxLen at hls
  obtain ⟨v, x⟩ := a
  obtain ⟨m, rfl⟩ := Int.eq_ofNat_of_zero_le hv.1
  have hm : m < s.length := by have := hv.2; simp only at this; omega
  clear hv
  obtain ⟨b2, o2, rfl, _, hc2⟩ := hS.nums.at_ hm
  have HB := Lib.hid (al_b w (.cells #[.int .i64 (m : Int), .int .i64 x] 73))
  clear hS
  show Calls _ _ _ _ fun e w' => e = .returned (.bool (!decide (ix s m = x))) ∧ _
  by_cases h : ix s m = x
  · have h2 : (ix s m != x) = false := by simpa using h
    have h3 : (ix s m == x) = true := by simpa using h
    have H := Lib.hid (show (!decide (ix s m = x)) = false by simpa using h)
    clear h
    go_enter Tryd.func81, Tryd.ntmps81
    go_wp2
    go_quiet (fail)
    go_wp2
    go_ret
    exact ⟨ret_val (by rw [H.out]; rfl), belowN HB.out _⟩
  · have h2 : (ix s m != x) = true := by simpa using h
    have h3 : (ix s m == x) = false := by simpa using h
    have H := Lib.hid (show (!decide (ix s m = x)) = true by simpa using h)
    clear h
    go_enter Tryd.func81, Tryd.ntmps81
    go_wp2
    go_quiet (fail)
    go_wp2
    go_ret
    exact ⟨ret_val (by rw [H.out]; rfl), belowN HB.out _⟩
theorem holdB_any (s : List Int) (l : List Asg) : holdB s l = !(List.range l.length).any (fun j => !h1B s l j) := by
  unfold holdB allB
  rw [Bool.eq_iff_iff]
  simp
set_option maxHeartbeats 1000000 in
theorem indexA_any (S : List Int) (A A2 : Option Addr) (c c2 : Nat) (s : List Int) (l : List Asg) (hl : AsOk S l) (hs : s.length = S.length) (bx : Nat) (w : World) (hL : AsgL w w.heap.size A2 c2 l) (hS : Lst w w.heap.size A c s) (hb : bx < w.heap.size) (hc : w.cell? ⟨bx, 0, none⟩ = some (.slice A s.length c)) :
    Calls Tryd.prog 92 #[.slice A2 l.length c2, .func (.func 81) #[] #[.pointer (some ⟨bx, 0, none⟩)]] w fun e w' => e = .returned (.int .i64 (idxB (fun j => !h1B s l j) l.length)) ∧ Below w.heap.size w w' := by
  have hln := hL.len
  unfold maxLen at hln
  have HL := Lib.hid (fun (W : World) (h : Below w.heap.size w W) => hL.to h h.size)
  have HS := Lib.hid (fun (W : World) (h : Below w.heap.size w W) => hS.to h h.size)
  have HC := Lib.hid (fun (W : World) (h : Below w.heap.size w W) => (h.cell (p := ⟨bx, 0, none⟩) hb).trans hc)
  have HV := Lib.hid (fun k (hk : k < l.length) => show 0 ≤ (asg l k).v ∧ (asg l k).v < s.length by have h1 := hl.v k hk; have h2 := hl.lt k hk; omega)
  have HBX := Lib.hid hb
  clear hL hS hc hb hs
  go_enter Tryd.func92, Tryd.ntmps92
  go_wp2
  go_loopw [8] (fun i wr => ∃ k : Nat, k ≤ l.length ∧ i = .int .i64 k ∧ (∀ j, j < k → h1B s l j = true) ∧ Below w.heap.size w wr) (fun i _ => l.length - (intOf i).toNat)
  case atStart => exact ⟨0, by omega, rfl, by omega, Below.refl _ _⟩
  case round =>
    obtain ⟨k, hk, rfl, hj, hb⟩ := hrel
    have HJ := Lib.hid hj
    have HB := Lib.hid hb
    clear hj hb
    by_cases hlt : k < l.length
    · obtain ⟨b, o, rfl, _, ⟨q0, q1⟩⟩ := (HL.out _ HB.out).at_ hlt
      have HR := Lib.hid (differs_any (asg l k) A c s bx wr (HV.out k hlt) (HS.out _ HB.out) (by have := HB.out.size; have := HBX.out; omega) (HC.out _ HB.out))
      cases hi : h1B s l k
      · have HI := Lib.hid hi
        have hi2 : decide (ix s (asg l k).v.toNat = (asg l k).x) = false := hi
        rw [hi2] at HR
        clear hi hi2
        go_wp2_with (go_at_call 81; (with_reducible refine HR.out.mono ?_); rintro e w5 ⟨rfl, hb5⟩; have HB5 := Lib.hid (HB.out.trans (hb5.mono HB.out.size)); clear hb5)
        go_ret
        exact ⟨ret_int2 (idxB_hit hlt (by rw [HI.out]; rfl) (fun j h => by rw [HJ.out j h]; rfl)).symm, HB5.out⟩
      · have HI := Lib.hid hi
        have hi2 : decide (ix s (asg l k).v.toNat = (asg l k).x) = true := hi
        rw [hi2] at HR
        clear hi hi2
        go_wp2_with (go_at_call 81; (with_reducible refine HR.out.mono ?_); rintro e w5 ⟨rfl, hb5⟩; have HB5 := Lib.hid (HB.out.trans (hb5.mono HB.out.size)); clear hb5)
        go_roundw
        case rel => exact ⟨k + 1, by omega, by go_num, all_step HJ.out HI.out, HB5.out⟩
        case measure => simp [intOf]; omega
    · have hge : ¬ ((k : Int) < l.length) := by omega
      go_wp2
      go_ret
      exact ⟨ret_int2 (idxB_miss (fun j h => by rw [HJ.out j (by omega)]; rfl)).symm, HB.out⟩
set_option maxHeartbeats 400000 in
theorem containsA_any (S : List Int) (A A2 : Option Addr) (c c2 : Nat) (s : List Int) (l : List Asg) (hl : AsOk S l) (hs : s.length = S.length) (bx : Nat) (w : World) (hL : AsgL w w.heap.size A2 c2 l) (hS : Lst w w.heap.size A c s) (hb : bx < w.heap.size) (hc : w.cell? ⟨bx, 0, none⟩ = some (.slice A s.length c)) :
    Calls Tryd.prog 82 #[.slice A2 l.length c2, .func (.func 81) #[] #[.pointer (some ⟨bx, 0, none⟩)]] w fun e w' => e = .returned (.bool (!holdB s l)) ∧ Below w.heap.size w w' := by
  have HR := Lib.hid (indexA_any S A A2 c c2 s l hl hs bx w hL hS hb hc)
  have hI := idxB_has (fun j => !h1B s l j) l.length
  have HS := Lib.hid (holdB_any s l)
  clear hL hS hc hs
  go_enter Tryd.func82, Tryd.ntmps82
  go_wp2_with (go_at_call 92; (with_reducible refine HR.out.mono ?_); rintro e w5 ⟨rfl, hb5⟩; have HB5 := Lib.hid hb5; clear hb5)
  go_ret
  exact ⟨ret_val (by rw [HS.out, Bool.not_not]; rfl), HB5.out⟩
set_option maxHeartbeats 400000 in
theorem holds_any (S : List Int) (A A2 : Option Addr) (c c2 : Nat) (s : List Int) (l : List Asg) (hl : AsOk S l) (hs : s.length = S.length) (w : World) (hL : AsgL w w.heap.size A2 c2 l) (hS : Lst w w.heap.size A c s) :
    Calls Tryd.prog 62 #[.slice A2 l.length c2, .slice A s.length c] w fun e w' => e = .returned (.bool (holdB s l)) ∧ Below w.heap.size w w' := by
  have HB := Lib.hid (al_b w (.cells #[.slice A s.length c] 22))
  have HR := Lib.hid (containsA_any S A A2 c c2 s l hl hs w.heap.size _ (hL.to HB.out HB.out.size) (hS.to HB.out HB.out.size) (by simp) (cell_new _ _ _).1)
  clear hL hS hs
  cases hh : holdB s l
  · rw [hh] at HR
    clear hh
    go_enter Tryd.func62, Tryd.ntmps62
    go_wp2_with (go_at_call 82; (with_reducible refine HR.out.mono ?_); rintro e w5 ⟨rfl, hb5⟩; have HB5 := Lib.hid (HB.out.trans (hb5.mono HB.out.size)); clear hb5)
    go_ret
    exact ⟨rfl, HB5.out⟩
  · rw [hh] at HR
    clear hh
    go_enter Tryd.func62, Tryd.ntmps62
    go_wp2_with (go_at_call 82; (with_reducible refine HR.out.mono ?_); rintro e w5 ⟨rfl, hb5⟩; have HB5 := Lib.hid (HB.out.trans (hb5.mono HB.out.size)); clear hb5)
    go_ret
    exact ⟨rfl, HB5.out⟩

/-- What step leaves: the state in its row. -/
def StP (w : World) (base g cap : Nat) (s : List Int) (o : MOp) (e : Ending) (w' : World) : Prop :=
  e = .returned (.bool (holdB s o.pre)) ∧ Row w' base g cap (if holdB s o.pre then aft s o.post else s) ∧ Below base w w'
set_option maxHeartbeats 2000000 in
theorem step_any (S : List Int) (a1 a2 : Option Addr) (c1 c2 : Nat) (o : MOp) (h1 : AsOk S o.pre) (h2 : AsOk S o.post) (s : List Int) (hs : s.length = S.length) (base g cap : Nat) (w : World)
    (hb : base ≤ w.heap.size) (hg : base ≤ g) (hR : Row w base g cap s) (hL1 : AsgL w base a1 c1 o.pre) (hL2 : AsgL w base a2 c2 o.post) :
    Calls Tryd.prog 61 #[.agg #[.slice a1 o.pre.length c1, .slice a2 o.post.length c2, .int .i64 o.cost], .slice (some ⟨g, 0, none⟩) s.length cap] w (StP w base g cap s o) := by
  have hlp := hL2.len
  unfold maxLen at hlp
  have HB := Lib.hid (al_b w (.cells #[.slice a1 o.pre.length c1, .slice a2 o.post.length c2, .int .i64 o.cost] 75))
  have hO := Lib.hid (tri_new w (.slice a1 o.pre.length c1) (.slice a2 o.post.length c2) (.int .i64 o.cost) 75)
  have HR1 := Lib.hid (row_to hR HB.out)
  have HHO := Lib.hid (holds_any S (some ⟨g, 0, none⟩) a1 cap c1 s o.pre h1 hs _ ((hL1.to (Below.refl _ _) hb).to HB.out HB.out.size) (own_l2 HR1.out))
  have HPO := Lib.hid (fun (W : World) (h : Below base w W) => hL2.to h (Nat.le_refl base))
  have HR := Lib.hid hR
  have HBM := Lib.hid hb
  have HGB := Lib.hid hg
  have HLN := Lib.hid (aftN_len s o.post)
  have HS := Lib.hid hs
  have HH2 := Lib.hid h2
  clear hR hL1 hL2 hb hg hs h1 h2
  cases hh : holdB s o.pre
  · rw [hh] at HHO
    have H := Lib.hid hh
    clear hh
    go_enter Tryd.func61, Tryd.ntmps61
    go_wp2_with (go_at_call 62; (with_reducible refine HHO.out.mono ?_); rintro e w5 ⟨rfl, hb5⟩; have HB5 := Lib.hid (HB.out.trans (hb5.mono HB.out.size)); have HO5 := Lib.hid (hO.out.to hb5); obtain ⟨_, z0, z1, z2⟩ := HO5.out; clear hb5)
    go_ret
    refine ⟨ret_val (by rw [H.out]; rfl), ?_, HB5.out.mono HBM.out⟩
    rw [H.out]
    exact row_to HR.out HB5.out
  rw [hh] at HHO
  have H := Lib.hid hh
  clear hh
  go_enter Tryd.func61, Tryd.ntmps61
  go_wp2_with (go_at_call 62; (with_reducible refine HHO.out.mono ?_); rintro e w5 ⟨rfl, hb5⟩; have HB5 := Lib.hid (HB.out.trans (hb5.mono HB.out.size)); have HO5 := Lib.hid (hO.out.to hb5); obtain ⟨_, z0, z1, z2⟩ := HO5.out; clear hb5)
  have HR5 := Lib.hid (row_to HR.out HB5.out)
  go_loopw [15] (fun i wr => ∃ k : Nat, k ≤ o.post.length ∧ i = .int .i64 k ∧ Row wr base g cap (aftN s o.post k) ∧ Below base w wr) (fun i _ => o.post.length - (intOf i).toNat)
  case atStart => exact ⟨0, by omega, rfl, HR5.out, HB5.out.mono HBM.out⟩
  case round =>
    clear z0 z1 z2 HB5 HO5 HR5 HHO hO HB HR1
    obtain ⟨k, hk, rfl, hr, hb⟩ := hrel
    have HRR := Lib.hid hr
    have HBB := Lib.hid hb
    clear hr hb
    by_cases hlt : k < o.post.length
    case neg =>
      obtain rfl : k = o.post.length := by omega
      have hge : ¬ ((o.post.length : Int) < o.post.length) := by omega
      go_wp2
      go_ret
      refine ⟨ret_val (by rw [H.out]; rfl), ?_, HBB.out⟩
      rw [H.out]
      exact HRR.out
    obtain ⟨b2, p2, rfl, _, ⟨r0, r1⟩⟩ := (HPO.out _ HBB.out).at_ hlt
    have hv := HH2.out.v k hlt
    have hlt2 : vr o.post k < s.length := by have := HH2.out.lt k hlt; have := HS.out; omega
    rw [hv] at r0
    have hlk := HLN.out k (by omega)
    have hal := al_b wr (.cells #[.int .i64 (vr o.post k : Int), .int .i64 (asg o.post k).x] 73)
    have HR6 := Lib.hid (row_to HRR.out hal)
    obtain ⟨z0, z1⟩ := row_cell HR6.out (m := vr o.post k) (by omega)
    have HST := Lib.hid (aftN_succ (s := s) hlt)
    have hsz := HBB.out.size
    have HB6 := Lib.hid (HBB.out.trans (hal.mono (by have := HBM.out; omega)))
    clear hv hlk hal hsz
    go_wp2
    go_roundw
    case rel =>
      refine ⟨k + 1, by omega, by go_num, ?_, HB6.out.setCell (by exact HGB.out) _⟩
      rw [HST.out]
      exact row_put HR6.out _ _
    case measure => simp [intOf]; omega
end Go.Proofs.YtiaobanloakplaaDoor
end

/- Applicable, Apply, Solves and Cost of package multi. -/
section
namespace Go.Proofs.YtiaobanloakplaaDoor
open Go.RowKit
set_option linter.unusedSimpArgs false
set_option linter.unusedVariables false
set_option maxRecDepth 100000


theorem FrM.toB {w W W' : World} {x : MT} {u v : Int} {base : Nat} (h : FrM w W x u v) (hb : Below base W W') (hB : w.heap.size + 2 ≤ base) : FrM w W' x u v :=
  ⟨h.below.trans (hb.mono (by omega)), h.box.to hb (by omega), h.two.to hb (by omega)⟩
theorem own_far2 {W : World} {base : Nat} {e : TypeId} {size : Nat} {v : Value} {n : Nat} {xs : List Value} (h : W.ownsRow base e size v n xs) {p : Addr} (hp : p.block < base) (u : Value) : (W.setCell p u).ownsRow base e size v n xs := by
  refine h.kept (set_grown W p u) ?_
  cases hv : v.ownBlock with
  | none => exact .inl rfl
  | some q => exact .inr (fun e => by have := (h.lt q hv).1; cases e; omega)
theorem ck_ok {x : MT} {s plan : List Int} (h : (ckM x s plan).1 = 0) : MVal x ∧ msB x.sizes s = true ∧ planB x.ops.length plan = true ∧ plan.length ≤ 60 ∧ ckM x s plan = (0, 0) := by
  unfold ckM at h ⊢
  split at h
  · rename_i h1; exact absurd h h1
  rename_i h1
  split at h
  · cases h
  rename_i h2
  have h3 : planB x.ops.length plan = true ∧ plan.length ≤ 60 := by
    unfold spF at h
    split at h
    · cases h
    · rename_i h4
      split at h
      · rename_i h5; exact ⟨h5, by omega⟩
      · cases h
  refine ⟨(mf_val (by simpa using h1)).1, by simpa using h2, h3.1, h3.2, ?_⟩
  rw [if_neg h1, if_neg h2]
  unfold spF
  rw [if_neg (by omega), if_pos h3.1]

/-- The applicable operators among the first k. -/
def apN (ops : List MOp) (s : List Int) : Nat → List Int
  | 0 => []
  | k + 1 => if holdB s (mop ops k).pre then apN ops s k ++ [(k : Int)] else apN ops s k
theorem apN_len (ops : List MOp) (s : List Int) : ∀ k, (apN ops s k).length ≤ k
  | 0 => by simp [apN]
  | k + 1 => by
    have := apN_len ops s k
    simp only [apN]
    split <;> simp <;> omega
def apL (x : MT) (s : List Int) : List Int := if (ckM x s []).1 = 0 then apN x.ops s x.ops.length else []
/-- A list and a fault. -/
def LsF (w : World) (l : List Int) (f : Int × Int) (e : Ending) (w' : World) : Prop := ∃ v, e = .returned (.tuple #[v, faultV f]) ∧ w'.ownsRow w.heap.size 3 1 v l.length (l.map (Value.int .i64)) ∧ Below w.heap.size w w'
set_option maxHeartbeats 4000000 in
theorem mapplicable_any (x : MT) (A : Option Addr) (c : Nat) (s : List Int) (w : World) (hX : MTIn w w.heap.size x) (hS : Lst w w.heap.size A c s) :
    Calls Tryd.prog 28 #[.agg #[.slice x.az x.sizes.length x.cz, .slice x.ai x.init.length x.ci, .slice x.ag x.goal.length x.cg, .slice x.ao x.ops.length x.co], .slice A s.length c] w (LsF w (apL x s) (ckM x s [])) := by
  have hF := Lib.hid (frM_new w x 38 28)
  have HCK := Lib.hid (show Calls Tryd.prog 59 #[.agg #[.slice x.az x.sizes.length x.cz, .slice x.ai x.init.length x.ci, .slice x.ag x.goal.length x.cg, .slice x.ao x.ops.length x.co], .slice A s.length c, .slice none 0 0] _ fun e w' => e = .returned (faultV (ckM x s [])) ∧ _ from mcheck_any x A none c 0 s [] _ (hX.to hF.out.below hF.out.below.size) (hS.to hF.out.below hF.out.below.size) (lst_nil _ _))
  have HX0 := Lib.hid (fun (W : World) (h : Below w.heap.size w W) => hX.to h h.size)
  have HS0 := Lib.hid (fun (W : World) (h : Below w.heap.size w W) => hS.to h h.size)
  clear hX hS
  by_cases hn : (ckM x s []).1 = 0
  case neg =>
    have H := Lib.hid (show apL x s = [] by unfold apL; rw [if_neg hn])
    generalize ckM x s [] = r at *
    have hne : (r.1 != 0) = true := by simpa using hn
    have hne2 : (r.1 == 0) = false := by simpa using hn
    clear hn
    go_enter Tryd.func28, Tryd.ntmps28
    go_wp2_with (go_at_call 59; (with_reducible refine HCK.out.mono ?_); rintro e w1 ⟨rfl, hb1⟩; have hF := Lib.hid ((hF.out.to hb1).to (al_b w1 (.cells #[.int .i64 r.1, .int .i64 r.2] 28))); obtain ⟨_, ⟨_, t0, t1, t2, t3⟩, ⟨_, k0, k1, f0, f1⟩⟩ := hF.out; clear hb1)
    go_region
    all_goals
      go_wp2
      refine post_with_fault (g := w.heap.size + 1) (x := .int .i64 r.1) (y := .int .i64 r.2) Tryd.results28 rfl (two1 (hF.out.two.set _ _)) ?_
      rw [H.out]
      exact ⟨_, rfl, World.ownsRow_nil _ _ _ _, ((hF.out.below.setCell (by simp) _).setCell (by simp) _).drew⟩
  have H := Lib.hid (show apL x s = apN x.ops s x.ops.length by unfold apL; rw [if_pos hn])
  obtain ⟨hv, hm, _, _, hz⟩ := ck_ok hn
  rw [hz] at HCK ⊢
  have HV := Lib.hid hv
  have HM := Lib.hid (ms_len hm)
  have hno := hv.m
  obtain ⟨i0, hi0, hz0, hz1, hz2⟩ := info_parts info_int
  clear hn hz hv hm
  go_enter Tryd.func28, Tryd.ntmps28
  go_wp2_with (go_at_call 59; (with_reducible refine HCK.out.mono ?_); rintro e w1 ⟨rfl, hb1⟩; have hF := Lib.hid ((hF.out.to hb1).to (al_b w1 (.cells #[.int .i64 0, .int .i64 0] 28))); obtain ⟨_, ⟨_, t0, t1, t2, t3⟩, ⟨_, k0, k1, f0, f1⟩⟩ := hF.out; clear hb1)
  go_loopw [7, 20] (fun v i wr => ∃ (k : Nat), k ≤ x.ops.length ∧ i = .int .i64 k ∧ wr.ownsRow (w.heap.size + 2) 3 1 v (apN x.ops s k).length ((apN x.ops s k).map (Value.int .i64)) ∧ FrM w wr x 0 0) (fun _ i _ => x.ops.length - (intOf i).toNat)
  case atStart => exact ⟨0, by omega, rfl, World.ownsRow_nil _ _ _ _, hF.out⟩
  case round =>
    rename_i v _ wr
    clear t0 t1 t2 t3 k0 k1 f0 f1 HCK
    clear hF
    obtain ⟨k, hk, rfl, ho, hf⟩ := hrel
    have hO := Lib.hid ho
    have hF := Lib.hid hf
    clear ho hf
    obtain ⟨_, ⟨_, t0, t1, t2, t3⟩, ⟨_, k0, k1, f0, f1⟩⟩ := hF.out
    by_cases hlt : k < x.ops.length
    case neg =>
      obtain rfl : k = x.ops.length := by omega
      have hge : ¬ ((x.ops.length : Int) < x.ops.length) := by omega
      go_wp2
      refine post_with_fault (g := w.heap.size + 1) (x := .int .i64 0) (y := .int .i64 0) Tryd.results28 rfl (hF.out.two.set _ _) ?_
      rw [H.out]
      exact ⟨_, rfl, own_mono (own_far2 (own_far2 hO.out (p := ⟨w.heap.size + 1, 0, none⟩) (by simp) (.int .i64 0)) (p := ⟨w.heap.size + 1, 1, none⟩) (by simp) (.int .i64 0)) (by omega), (hF.out.below.setCell (by simp) _).setCell (by simp) _⟩
    obtain ⟨b, p, a1, a2, c1, c2, hao, hbl, ⟨q0, q1, q2⟩, hpre, hpost⟩ := (HX0.out _ hF.out.below).ops.at_ hlt
    rw [hao]
    have hal := al_b wr (.cells #[.slice a1 (mop x.ops k).pre.length c1, .slice a2 (mop x.ops k).post.length c2, .int .i64 (mop x.ops k).cost] 75)
    have HHO := Lib.hid (fun (W : World) (h : Below w.heap.size w W) (h2 : Below wr.heap.size wr W) => holds_any x.sizes A a1 c c1 s (mop x.ops k).pre (HV.out.pre k hlt) HM.out W (hpre.to h2 h2.size) (HS0.out W h))
    have hF := Lib.hid (hF.out.to hal)
    have hO := Lib.hid (own_to hO.out hal)
    have hln := apN_len x.ops s k
    have hN : apN x.ops s (k + 1) = if holdB s (mop x.ops k).pre then apN x.ops s k ++ [(k : Int)] else apN x.ops s k := rfl
    have HHO := Lib.hid (HHO.out _ hF.out.below hal)
    clear hal hpre hpost hao
    cases hh : holdB s (mop x.ops k).pre
    · rw [hh] at HHO hN
      have HN := Lib.hid (show apN x.ops s (k + 1) = apN x.ops s k from hN)
      clear hN hh
      go_wp2_with (go_at_call 62; (with_reducible refine HHO.out.mono ?_); rintro e w5 ⟨rfl, hb5⟩; have hF := Lib.hid (hF.out.to hb5); have hO := Lib.hid (own_to hO.out hb5); clear hb5; obtain ⟨_, ⟨_, t0, t1, t2, t3⟩, ⟨_, k0, k1, f0, f1⟩⟩ := hF.out)
      go_roundw
      case rel => exact ⟨k + 1, by omega, by go_num, by rw [HN.out]; exact hO.out, hF.out⟩
      case measure => simp [intOf]; omega
    · rw [hh] at HHO hN
      have HN := Lib.hid (show apN x.ops s (k + 1) = apN x.ops s k ++ [(k : Int)] from hN)
      clear hN hh
      go_wp2_with (first | (go_at_call 62; (with_reducible refine HHO.out.mono ?_); rintro e w5 ⟨rfl, hb5⟩; have hF := Lib.hid (hF.out.to hb5); have hO := Lib.hid (own_to hO.out hb5); clear hb5; obtain ⟨_, ⟨_, t0, t1, t2, t3⟩, ⟨_, k0, k1, f0, f1⟩⟩ := hF.out) | (at_builtin; refine wpList_append_own _ rfl _ _ 22 rfl (w.heap.size + 2) 3 i0 (.int .i64 0) 1 8 Tryd.underlying22 hi0 hz0 hz1 hz2 rfl (by decide) _ _ _ rfl (own_to hO.out (al_b w5 _)) ⟨w5.heap.size, 0, none⟩ 1 1 [.int .i64 (k : Int)] rfl rfl (news1 (cell_new _ _ _).1) (by simp [Value.oneCell']) (by unfold maxLen; omega) (by omega) (by have := hF.out.two.lt; simp; omega) ?_))
      intro v6 w6 hown6 hgrow6 _
      have hown7 : w6.ownsRow (w.heap.size + 2) 3 1 v6 (apN x.ops s (k + 1)).length ((apN x.ops s (k + 1)).map (Value.int .i64)) := by rw [HN.out]; simp only [List.length_append, List.length_singleton, List.map_append, List.map_cons, List.map_nil]; exact hown6
      have HO6 := Lib.hid hown7
      have hB6 : Below (w.heap.size + 2) w5 w6 := ((Below.refl (w.heap.size + 2) w5).alloc (by have := hF.out.two.lt; omega) _).grown hgrow6 (by have := hF.out.two.lt; simp; omega) (fun q hq => (hO.out.lt q hq).1)
      have hF6 := Lib.hid (hF.out.toB hB6 (by omega))
      clear hown6 hgrow6 hown7 hB6
      go_wp2
      go_roundw
      case rel => exact ⟨k + 1, by omega, by go_num, HO6.out, hF6.out⟩
      case measure => simp [intOf]; omega
end Go.Proofs.YtiaobanloakplaaDoor
end
