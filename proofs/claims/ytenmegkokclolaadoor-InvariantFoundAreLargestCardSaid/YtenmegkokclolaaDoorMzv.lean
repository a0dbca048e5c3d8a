/- operatorCode, Validate and check of package multi. -/
import Derived.Test.YtenmegkokclolaaDoorMzb
namespace Go.Proofs.YtenmegkokclolaaDoor
open Go.RowKit
set_option linter.unusedSimpArgs false
set_option linter.unusedVariables false
set_option maxRecDepth 100000

set_option maxHeartbeats 2000000 in
theorem mopCode_any (A a1 a2 : Option Addr) (c c1 c2 : Nat) (S : List Int) (o : MOp) (w : World) (hS : Lst w w.heap.size A c S) (h1 : AsgL w w.heap.size a1 c1 o.pre) (h2 : AsgL w w.heap.size a2 c2 o.post) :
    Calls Tryd.prog 62 #[.slice A S.length c, .agg #[.slice a1 o.pre.length c1, .slice a2 o.post.length c2, .int .i64 o.cost]] w fun e w' => e = .returned (.int .i64 (mcode S o)) ∧ Below w.heap.size w w' := by
  have hQ := Lib.hid (al_b w (.cells #[.slice a1 o.pre.length c1, .slice a2 o.post.length c2, .int .i64 o.cost] 78))
  have hO := Lib.hid (tri_new w (.slice a1 o.pre.length c1) (.slice a2 o.post.length c2) (.int .i64 o.cost) 78)
  have HP1 := Lib.hid (areAssign_any A a1 c c1 S o.pre _ (hS.to hQ.out hQ.out.size) (h1.to hQ.out hQ.out.size))
  have HP2 := Lib.hid (fun (W : World) (h : Below w.heap.size w W) => areAssign_any A a2 c c2 S o.post W (hS.to h h.size) (h2.to h h.size))
  clear hS h1 h2
  have hmc : mcode S o = if asB S o.pre && asB S o.post then (if inB o.cost 0 100 then 0 else 3) else 5 := rfl
  cases h1 : asB S o.pre
  · rw [h1] at hmc HP1
    have H := Lib.hid (show mcode S o = 5 from hmc)
    clear hmc h1
    go_enter Tryd.func62, Tryd.ntmps62
    go_wp2_with (go_at_call 61; (with_reducible refine HP1.out.mono ?_); rintro e w6 ⟨rfl, hb⟩; have hO := Lib.hid (hO.out.to hb); have hQ := Lib.hid (hQ.out.trans (hb.mono hQ.out.size)); clear hb; obtain ⟨_, z0, z1, z2⟩ := hO.out)
    go_ret
    exact ⟨ret_int H.out.symm, hQ.out⟩
  rw [h1] at hmc HP1
  cases h2 : asB S o.post
  · rw [h2] at hmc HP2
    have H := Lib.hid (show mcode S o = 5 from hmc)
    clear hmc h1 h2
    go_enter Tryd.func62, Tryd.ntmps62
    go_wp2_with (first | (go_at_call 61; (with_reducible refine HP1.out.mono ?_); rintro e w6 ⟨rfl, hb⟩; have hO := Lib.hid (hO.out.to hb); have hQ := Lib.hid (hQ.out.trans (hb.mono hQ.out.size)); clear hb; obtain ⟨_, z0, z1, z2⟩ := hO.out) | (go_at_call 61; (with_reducible refine (HP2.out _ hQ.out).mono ?_); rintro e w7 ⟨rfl, hb⟩; have hO := Lib.hid (hO.out.to hb); have hQ := Lib.hid (hQ.out.trans (hb.mono hQ.out.size)); clear hb; obtain ⟨_, z0, z1, z2⟩ := hO.out))
    go_ret
    exact ⟨ret_int H.out.symm, hQ.out⟩
  rw [h2] at hmc HP2
  have hmc : mcode S o = if inB o.cost 0 100 then 0 else 3 := hmc
  by_cases h3 : o.cost < 0
  · have H := Lib.hid (show mcode S o = 3 by rw [hmc, inB_no (fun h => by omega)]; rfl)
    have hd : decide (o.cost < 0) = true := decide_eq_true h3
    clear hmc h1 h2
    go_enter Tryd.func62, Tryd.ntmps62
    go_wp2_with (first | (go_at_call 61; (with_reducible refine HP1.out.mono ?_); rintro e w6 ⟨rfl, hb⟩; have hO := Lib.hid (hO.out.to hb); have hQ := Lib.hid (hQ.out.trans (hb.mono hQ.out.size)); clear hb; obtain ⟨_, z0, z1, z2⟩ := hO.out) | (go_at_call 61; (with_reducible refine (HP2.out _ hQ.out).mono ?_); rintro e w7 ⟨rfl, hb⟩; have hO := Lib.hid (hO.out.to hb); have hQ := Lib.hid (hQ.out.trans (hb.mono hQ.out.size)); clear hb; obtain ⟨_, z0, z1, z2⟩ := hO.out))
    go_ret
    exact ⟨ret_int H.out.symm, hQ.out⟩
  have hd : decide (o.cost < 0) = false := decide_eq_false h3
  by_cases h4 : 100 < o.cost
  · have H := Lib.hid (show mcode S o = 3 by rw [hmc, inB_no (fun h => by omega)]; rfl)
    have hd2 : decide (100 < o.cost) = true := decide_eq_true h4
    clear hmc h1 h2
    go_enter Tryd.func62, Tryd.ntmps62
    go_wp2_with (first | (go_at_call 61; (with_reducible refine HP1.out.mono ?_); rintro e w6 ⟨rfl, hb⟩; have hO := Lib.hid (hO.out.to hb); have hQ := Lib.hid (hQ.out.trans (hb.mono hQ.out.size)); clear hb; obtain ⟨_, z0, z1, z2⟩ := hO.out) | (go_at_call 61; (with_reducible refine (HP2.out _ hQ.out).mono ?_); rintro e w7 ⟨rfl, hb⟩; have hO := Lib.hid (hO.out.to hb); have hQ := Lib.hid (hQ.out.trans (hb.mono hQ.out.size)); clear hb; obtain ⟨_, z0, z1, z2⟩ := hO.out))
    go_ret
    exact ⟨ret_int H.out.symm, hQ.out⟩
  · have H := Lib.hid (show mcode S o = 0 by rw [hmc, inB_iff.2 (show 0 ≤ o.cost ∧ o.cost ≤ 100 by omega)]; rfl)
    have hd2 : decide (100 < o.cost) = false := decide_eq_false h4
    clear hmc h1 h2
    go_enter Tryd.func62, Tryd.ntmps62
    go_wp2_with (first | (go_at_call 61; (with_reducible refine HP1.out.mono ?_); rintro e w6 ⟨rfl, hb⟩; have hO := Lib.hid (hO.out.to hb); have hQ := Lib.hid (hQ.out.trans (hb.mono hQ.out.size)); clear hb; obtain ⟨_, z0, z1, z2⟩ := hO.out) | (go_at_call 61; (with_reducible refine (HP2.out _ hQ.out).mono ?_); rintro e w7 ⟨rfl, hb⟩; have hO := Lib.hid (hO.out.to hb); have hQ := Lib.hid (hQ.out.trans (hb.mono hQ.out.size)); clear hb; obtain ⟨_, z0, z1, z2⟩ := hO.out))
    go_ret
    exact ⟨ret_int H.out.symm, hQ.out⟩

set_option maxHeartbeats 4000000 in
theorem mvalidate_any (x : MT) (w : World) (hX : MTIn w w.heap.size x) :
    Calls Tryd.prog 38 #[.agg #[.slice x.az x.sizes.length x.cz, .slice x.ai x.init.length x.ci, .slice x.ag x.goal.length x.cg, .slice x.ao x.ops.length x.co]] w fun e w' => e = .returned (faultV (mfF x)) ∧ Below w.heap.size w w' := by
  have hns := hX.sizes.len
  have hno := Nat.le_trans hX.ops.le hX.ops.max
  unfold maxLen at hns hno
  have hF := Lib.hid (frM_new w x 50 27)
  have HX0 := Lib.hid (fun (W : World) (h : Below w.heap.size w W) => hX.to h h.size)
  have HSZ := Lib.hid (containsI_any x.az x.cz x.sizes _ (HX0.out _ hF.out.below).sizes)
  have HMS := Lib.hid (isState_any x.az x.ai x.cz x.ci x.sizes x.init _ (HX0.out _ hF.out.below).sizes (HX0.out _ hF.out.below).init)
  have HAG := Lib.hid (areAssign_any x.az x.ag x.cz x.cg x.sizes x.goal _ (HX0.out _ hF.out.below).sizes (HX0.out _ hF.out.below).goal)
  clear hX
  by_cases h0 : x.sizes.length = 0
  · have H := Lib.hid (show mfF x = (2, -1) by unfold mfF; rw [if_pos (by omega)])
    have hq : ((x.sizes.length : Int) == 0) = true := by rw [h0]; rfl
    clear h0
    go_enter Tryd.func38, Tryd.ntmps38
    go_wp2
    go_returns
    exact ⟨ret_val (by rw [H.out]), by go_grown⟩
  have hq : ((x.sizes.length : Int) == 0) = false := beq_eq_false_iff_ne.2 (by omega)
  by_cases h8 : 8 < x.sizes.length
  · have H := Lib.hid (show mfF x = (2, -1) by unfold mfF; rw [if_pos (by omega)])
    have hd : decide ((8 : Int) < (x.sizes.length : Int)) = true := by simp; omega
    clear h0 h8
    go_enter Tryd.func38, Tryd.ntmps38
    go_wp2
    go_returns
    exact ⟨ret_val (by rw [H.out]), by go_grown⟩
  have hd : decide ((8 : Int) < (x.sizes.length : Int)) = false := by simp; omega
  have h18 := Lib.hid (show 1 ≤ x.sizes.length ∧ x.sizes.length ≤ 8 by omega)
  clear h0 h8
  cases hz : szB x.sizes
  · have H := Lib.hid (show mfF x = (3, -1) by have := h18.out; unfold mfF; rw [if_neg (by omega), if_pos hz])
    rw [hz] at HSZ
    clear hz
    go_enter Tryd.func38, Tryd.ntmps38
    go_wp2_with (go_at_call 59; (with_reducible refine HSZ.out.mono ?_); rintro e w4 ⟨rfl, rfl⟩)
    go_returns
    exact ⟨ret_val (by rw [H.out]), by go_grown⟩
  rw [hz] at HSZ
  cases hm : msB x.sizes x.init
  · have H := Lib.hid (show mfF x = (5, -2) by have := h18.out; unfold mfF; rw [if_neg (by omega), if_neg (by simp [hz]), if_pos hm])
    rw [hm] at HMS
    clear hz hm
    go_enter Tryd.func38, Tryd.ntmps38
    go_wp2_with (first | (go_at_call 59; (with_reducible refine HSZ.out.mono ?_); rintro e w4 ⟨rfl, rfl⟩) | (go_at_call 60; (with_reducible refine HMS.out.mono ?_); rintro e w5 ⟨rfl, rfl⟩))
    go_returns
    exact ⟨ret_val (by rw [H.out]), by go_grown⟩
  rw [hm] at HMS
  cases hg : asB x.sizes x.goal
  · have H := Lib.hid (show mfF x = (5, -3) by have := h18.out; unfold mfF; rw [if_neg (by omega), if_neg (by simp [hz]), if_neg (by simp [hm]), if_pos hg])
    rw [hg] at HAG
    clear hz hm hg
    go_enter Tryd.func38, Tryd.ntmps38
    go_wp2_with (first | (go_at_call 59; (with_reducible refine HSZ.out.mono ?_); rintro e w4 ⟨rfl, rfl⟩) | (go_at_call 60; (with_reducible refine HMS.out.mono ?_); rintro e w5 ⟨rfl, rfl⟩) | (go_at_call 61; (with_reducible refine HAG.out.mono ?_); rintro e w6 ⟨rfl, hb⟩; have hF := Lib.hid (hF.out.to hb); clear hb; obtain ⟨_, ⟨_, t0, t1, t2, t3⟩, ⟨_, k0, k1, f0, f1⟩⟩ := hF.out))
    refine post_fault (g := w.heap.size + 1) (x := .int .i64 5) (y := .int .i64 (-3)) Tryd.results38 rfl (hF.out.two.set _ _) ?_
    exact ⟨ret_val (by rw [H.out]), (hF.out.below.setCell (by simp) _).setCell (by simp) _⟩
  rw [hg] at HAG
  by_cases h40 : 40 < x.ops.length
  case pos =>
    have H := Lib.hid (show mfF x = (2, -1) by have := h18.out; unfold mfF; rw [if_neg (by omega), if_neg (by simp [hz]), if_neg (by simp [hm]), if_neg (by simp [hg]), if_pos h40])
    have hd40 : decide ((40 : Int) < (x.ops.length : Int)) = true := by simp; omega
    clear hz hm hg h40
    go_enter Tryd.func38, Tryd.ntmps38
    go_wp2_with (first | (go_at_call 59; (with_reducible refine HSZ.out.mono ?_); rintro e w4 ⟨rfl, rfl⟩) | (go_at_call 60; (with_reducible refine HMS.out.mono ?_); rintro e w5 ⟨rfl, rfl⟩) | (go_at_call 61; (with_reducible refine HAG.out.mono ?_); rintro e w6 ⟨rfl, hb⟩; have hF := Lib.hid (hF.out.to hb); clear hb; obtain ⟨_, ⟨_, t0, t1, t2, t3⟩, ⟨_, k0, k1, f0, f1⟩⟩ := hF.out))
    refine post_fault (g := w.heap.size + 1) (x := .int .i64 2) (y := .int .i64 (-1)) Tryd.results38 rfl (hF.out.two.set _ _) ?_
    exact ⟨ret_val (by rw [H.out]), (hF.out.below.setCell (by simp) _).setCell (by simp) _⟩
  have hd40 : decide ((40 : Int) < (x.ops.length : Int)) = false := by simp; omega
  have HG := Lib.hid (fun h0 => mf_good h18.out.1 h18.out.2 hz hm hg (by omega) h0)
  have HBD := Lib.hid (fun (k : Nat) hk h0 h => mf_bad (k := k) h18.out.1 h18.out.2 hz hm hg (by omega) hk h0 h)
  clear hz hm hg h40
  go_enter Tryd.func38, Tryd.ntmps38
  go_wp2_with (first | (go_at_call 59; (with_reducible refine HSZ.out.mono ?_); rintro e w4 ⟨rfl, rfl⟩) | (go_at_call 60; (with_reducible refine HMS.out.mono ?_); rintro e w5 ⟨rfl, rfl⟩) | (go_at_call 61; (with_reducible refine HAG.out.mono ?_); rintro e w6 ⟨rfl, hb⟩; have hF := Lib.hid (hF.out.to hb); clear hb; obtain ⟨_, ⟨_, t0, t1, t2, t3⟩, ⟨_, k0, k1, f0, f1⟩⟩ := hF.out))
  clear hd40 hd hq
  go_loopw [50] (fun i wr => ∃ k : Nat, k ≤ x.ops.length ∧ i = .int .i64 k ∧ (∀ j, j < k → mcode x.sizes (mop x.ops j) = 0) ∧ FrM w wr x 0 0) (fun i _ => x.ops.length - (intOf i).toNat)
  case atStart => exact ⟨0, by omega, rfl, fun j h => by omega, hF.out⟩
  case round =>
    clear t0 t1 t2 t3 k0 k1 f0 f1 HSZ HMS HAG
    clear hF
    obtain ⟨k, hk, rfl, hj, hf⟩ := hrel
    have HJ := Lib.hid hj
    have hF := Lib.hid hf
    clear hj hf
    obtain ⟨_, ⟨_, t0, t1, t2, t3⟩, ⟨_, k0, k1, f0, f1⟩⟩ := hF.out
    by_cases hlt : k < x.ops.length
    case neg =>
      have H := Lib.hid (HG.out (fun j hj => HJ.out j (by omega)))
      have hge : ¬ ((k : Int) < x.ops.length) := by omega
      go_wp2
      refine post_fault (g := w.heap.size + 1) (x := .int .i64 0) (y := .int .i64 0) Tryd.results38 rfl (hF.out.two.set _ _) ?_
      exact ⟨ret_val (by rw [H.out]), (hF.out.below.setCell (by simp) _).setCell (by simp) _⟩
    obtain ⟨b, p, a1, a2, c1, c2, hao, hbl, ⟨q0, q1, q2⟩, hpre, hpost⟩ := (HX0.out _ hF.out.below).ops.at_ hlt
    rw [hao]
    have HBAD := Lib.hid (fun h => HBD.out k hlt HJ.out h)
    have HST := Lib.hid (fun h => all_step (p := fun j => mcode x.sizes (mop x.ops j) = 0) HJ.out h)
    clear hao
    generalize mop x.ops k = o at *
    have hal := al_b wr (.cells #[.slice a1 o.pre.length c1, .slice a2 o.post.length c2, .int .i64 o.cost] 78)
    have hF := Lib.hid (hF.out.to hal)
    have HOC := Lib.hid (mopCode_any x.az a1 a2 x.cz c1 c2 x.sizes o _ (HX0.out _ hF.out.below).sizes (hpre.to hal hal.size) (hpost.to hal hal.size))
    clear hpre hpost hal
    by_cases hcode : mcode x.sizes o = 0
    · have H0 := Lib.hid hcode
      have hne : (mcode x.sizes o != 0) = false := by simpa using hcode
      clear hcode
      go_wp2_with (go_at_call 62; (with_reducible refine HOC.out.mono ?_); rintro e w7 ⟨rfl, hb⟩; have hF := Lib.hid (hF.out.to hb); clear hb; obtain ⟨_, ⟨_, t0, t1, t2, t3⟩, ⟨_, k0, k1, f0, f1⟩⟩ := hF.out)
      go_roundw
      case rel => exact ⟨k + 1, by omega, by go_num, HST.out H0.out, hF.out⟩
      case measure => simp [intOf]; omega
    · have H := Lib.hid (HBAD.out hcode)
      have hne : (mcode x.sizes o != 0) = true := by simpa using hcode
      clear hcode
      go_wp2_with (go_at_call 62; (with_reducible refine HOC.out.mono ?_); rintro e w7 ⟨rfl, hb⟩; have hF := Lib.hid (hF.out.to hb); clear hb; obtain ⟨_, ⟨_, t0, t1, t2, t3⟩, ⟨_, k0, k1, f0, f1⟩⟩ := hF.out)
      refine post_fault (g := w.heap.size + 1) (x := .int .i64 (mcode x.sizes o)) (y := .int .i64 k) Tryd.results38 rfl (hF.out.two.set _ _) ?_
      exact ⟨ret_val (by rw [H.out]), (hF.out.below.setCell (by simp) _).setCell (by simp) _⟩

/-- The fault of a task, a state and a plan. -/
def ckM (x : MT) (s plan : List Int) : Int × Int := if (mfF x).1 ≠ 0 then mfF x else if msB x.sizes s = false then (5, -4) else spF x.ops.length plan
end Go.Proofs.YtenmegkokclolaaDoor
