/- Validate of package numeric and PlanFault of strips. -/
import Derived.Test.YtiafplmaigpmeaaNzc
import Derived.Test.YtiafplmaigpmeaaNcx
namespace Go.Proofs.Ytiafplmaigpmeaa
open Go.RowKit
set_option linter.unusedSimpArgs false
set_option linter.unusedVariables false
set_option maxRecDepth 100000

set_option maxHeartbeats 2000000 in
theorem planFault_any (m : Nat) (hm : m ≤ maxLen) (a : Option Addr) (c : Nat) (plan : List Int) (w : World) (hP : Lst w w.heap.size a c plan) :
    Calls Try.prog 30 #[.int .i64 m, .slice a plan.length c] w fun e w' => e = .returned (faultV (spF m plan)) ∧ Below w.heap.size w w' := by
  have hpl := hP.len
  unfold maxLen at hpl hm
  have HP := Lib.hid (fun (W : World) (h : Below w.heap.size w W) => hP.to h h.size)
  clear hP
  have hT := Lib.hid (two_new w (.int .i64 0) (.int .i64 0) 28)
  by_cases h60 : 60 < plan.length
  · have H := Lib.hid (show spF m plan = (2, -5) by simp [spF, h60])
    have hd : decide ((60 : Int) < (plan.length : Int)) = true := by simp; omega
    go_enter Try.func30, Try.ntmps30
    go_wp2
    go_returns
    exact ⟨ret_val (by rw [H.out]), by go_grown⟩
  · have H := Lib.hid (show spF m plan = if planB m plan then (0, 0) else (3, -6) by simp [spF, h60])
    have hd : decide ((60 : Int) < (plan.length : Int)) = false := by simp; omega
    go_enter Try.func30, Try.ntmps30
    go_wp2
    go_loop [13] (fun i => ∃ k : Nat, k ≤ plan.length ∧ i = .int .i64 k ∧ ∀ j, j < k → stB m plan j = true) (fun i => plan.length - (intOf i).toNat)
    case atStart => exact ⟨0, by omega, rfl, by omega⟩
    case round =>
      obtain ⟨k, hk, rfl, hj⟩ := hrel
      have HJ := Lib.hid hj
      clear hj
      by_cases hlt : k < plan.length
      · have hB1 : Below w.heap.size w (w.alloc (.cells #[.int .i64 0, .int .i64 0] 28)) := by go_grown
        obtain ⟨b, o, rfl, _, hc⟩ := (HP.out _ hB1).nums.at_ hlt
        clear hB1
        by_cases h1 : ix plan k < 0
        · have HB := Lib.hid (planB_bad (m := m) hlt (by simp [stB]; omega))
          go_wp2
          go_returns
          exact ⟨ret_val (by rw [H.out, HB.out]; rfl), by go_grown⟩
        by_cases h2 : (m : Int) ≤ ix plan k
        · have HB := Lib.hid (planB_bad (m := m) hlt (by simp [stB]; omega))
          go_wp2
          go_returns
          exact ⟨ret_val (by rw [H.out, HB.out]; rfl), by go_grown⟩
        have HI := Lib.hid (show stB m plan k = true by simp [stB]; omega)
        go_wp2
        go_round
        case rel => exact ⟨k + 1, by omega, by go_num, stB_step HJ.out HI.out⟩
        case measure => simp [intOf]; omega
      · have hge : ¬ ((k : Int) < plan.length) := by omega
        go_wp2
        go_returns
        exact ⟨ret_val (by rw [H.out, planB_good (fun j hj => HJ.out j (by omega))]; rfl), by go_grown⟩

set_option maxHeartbeats 4000000 in
theorem nvalidate_any : NvC := by
  intro x w hX
  have hni := hX.init.len
  have hno := Nat.le_trans hX.ops.le hX.ops.max
  unfold maxLen at hni hno
  have hF0 := Lib.hid (frN_new w x 26 28)
  have HX0 := Lib.hid (fun (W : World) (h : Below w.heap.size w W) => hX.to h h.size)
  have HI0 := Lib.hid (HX0.out _ hF0.out.below).init
  clear hX
  by_cases h0 : x.init.length = 0
  · have H := Lib.hid (show nfF x = (2, -1) by unfold nfF; exact if_pos (fun h => by omega))
    have hq : ((x.init.length : Int) == 0) = true := by rw [h0]; rfl
    have HE := Lib.hid h0
    clear h0
    go_enter Try.func10, Try.ntmps10
    go_wp2
    go_returns
    exact ⟨ret_val (by rw [H.out]), by go_grown⟩
  have hq : ((x.init.length : Int) == 0) = false := beq_eq_false_iff_ne.2 (by omega)
  by_cases h8 : 8 < x.init.length
  · have H := Lib.hid (show nfF x = (2, -1) by unfold nfF; exact if_pos (fun h => by omega))
    have hd : decide ((8 : Int) < (x.init.length : Int)) = true := by simp; omega
    clear h0 h8
    go_enter Try.func10, Try.ntmps10
    go_wp2
    go_returns
    exact ⟨ret_val (by rw [H.out]), by go_grown⟩
  have hd : decide ((8 : Int) < (x.init.length : Int)) = false := by simp; omega
  have h18 := Lib.hid (show 1 ≤ x.init.length ∧ x.init.length ≤ 8 by omega)
  clear h0 h8
  cases hv : okL 1000000 x.init.length x.init
  · have H := Lib.hid (show nfF x = (5, -2) by have := h18.out; unfold nfF; rw [if_neg (by omega), if_pos hv])
    go_enter Try.func10, Try.ntmps10
    go_wp2_with (go_at_call 27; refine (isList_any _ _ x.init x.init.length 1000000 (by omega) (by omega) _ HI0.out).mono ?_; rintro e w2 ⟨rfl, hb2⟩; have HF2 := Lib.hid (hF0.out.to hb2); obtain ⟨_, ⟨_, t0, t1, t2⟩, ⟨_, k0, k1, f0, f1⟩⟩ := HF2.out; clear hb2)
    refine post_fault (g := w.heap.size + 1) (x := .int .i64 5) (y := .int .i64 (-2)) Try.results10 rfl (HF2.out.two.set _ _) ?_
    exact ⟨ret_val (by rw [H.out]), (HF2.out.below.setCell (by simp) _).setCell (by simp) _⟩
  by_cases hg : ccode x.init.length x.goal = 0
  case neg =>
    have H := Lib.hid (show nfF x = (ccode x.init.length x.goal, -3) by have := h18.out; unfold nfF; rw [if_neg (by omega), if_neg (by simp [hv]), if_pos hg])
    have hne : (ccode x.init.length x.goal != 0) = true := by simpa using hg
    clear hg
    go_enter Try.func10, Try.ntmps10
    go_wp2_with (first | (go_at_call 27; refine (isList_any _ _ x.init x.init.length 1000000 (by omega) (by omega) _ HI0.out).mono ?_; rintro e w2 ⟨rfl, hb2⟩; have HF2 := Lib.hid (hF0.out.to hb2); obtain ⟨_, ⟨_, t0, t1, t2⟩, ⟨_, k0, k1, f0, f1⟩⟩ := HF2.out; clear hb2) | (go_at_call 28; refine (cmpsCode_any x.init.length _ _ x.goal _ (HX0.out _ HF2.out.below).goal).mono ?_; rintro e w3 ⟨rfl, hb3⟩; have HF3 := Lib.hid (HF2.out.to hb3); obtain ⟨_, ⟨_, s0, s1, s2⟩, ⟨_, j0, j1, e0, e1⟩⟩ := HF3.out; clear hb3))
    refine post_fault (g := w.heap.size + 1) (x := .int .i64 (ccode x.init.length x.goal)) (y := .int .i64 (-3)) Try.results10 rfl (HF3.out.two.set _ _) ?_
    exact ⟨ret_val (by rw [H.out]), (HF3.out.below.setCell (by simp) _).setCell (by simp) _⟩
  have hne : (ccode x.init.length x.goal != 0) = false := by simpa using hg
  by_cases h40 : 40 < x.ops.length
  case pos =>
    have H := Lib.hid (show nfF x = (2, -1) by have := h18.out; unfold nfF; rw [if_neg (by omega), if_neg (by simp [hv]), if_neg (by simp [hg]), if_pos h40])
    have hd40 : decide ((40 : Int) < (x.ops.length : Int)) = true := by simp; omega
    clear hg h40
    go_enter Try.func10, Try.ntmps10
    go_wp2_with (first | (go_at_call 27; refine (isList_any _ _ x.init x.init.length 1000000 (by omega) (by omega) _ HI0.out).mono ?_; rintro e w2 ⟨rfl, hb2⟩; have HF2 := Lib.hid (hF0.out.to hb2); obtain ⟨_, ⟨_, t0, t1, t2⟩, ⟨_, k0, k1, f0, f1⟩⟩ := HF2.out; clear hb2) | (go_at_call 28; refine (cmpsCode_any x.init.length _ _ x.goal _ (HX0.out _ HF2.out.below).goal).mono ?_; rintro e w3 ⟨rfl, hb3⟩; have HF3 := Lib.hid (HF2.out.to hb3); obtain ⟨_, ⟨_, s0, s1, s2⟩, ⟨_, j0, j1, e0, e1⟩⟩ := HF3.out; clear hb3))
    refine post_fault (g := w.heap.size + 1) (x := .int .i64 2) (y := .int .i64 (-1)) Try.results10 rfl (HF3.out.two.set _ _) ?_
    exact ⟨ret_val (by rw [H.out]), (HF3.out.below.setCell (by simp) _).setCell (by simp) _⟩
  have hd40 : decide ((40 : Int) < (x.ops.length : Int)) = false := by simp; omega
  have HV := Lib.hid (show okL 1000000 x.init.length x.init = true ∧ ccode x.init.length x.goal = 0 ∧ x.ops.length ≤ 40 from ⟨hv, hg, by omega⟩)
  clear hg h40
  go_enter Try.func10, Try.ntmps10
  go_wp2_with (first | (go_at_call 27; refine (isList_any _ _ x.init x.init.length 1000000 (by omega) (by omega) _ HI0.out).mono ?_; rintro e w2 ⟨rfl, hb2⟩; have HF2 := Lib.hid (hF0.out.to hb2); obtain ⟨_, ⟨_, t0, t1, t2⟩, ⟨_, k0, k1, f0, f1⟩⟩ := HF2.out; clear hb2) | (go_at_call 28; refine (cmpsCode_any x.init.length _ _ x.goal _ (HX0.out _ HF2.out.below).goal).mono ?_; rintro e w3 ⟨rfl, hb3⟩; have HF3 := Lib.hid (HF2.out.to hb3); obtain ⟨_, ⟨_, s0, s1, s2⟩, ⟨_, j0, j1, e0, e1⟩⟩ := HF3.out; clear hb3))
  clear hv hd40 hne hd hq
  go_loopw [42] (fun i wr => ∃ k : Nat, k ≤ x.ops.length ∧ i = .int .i64 k ∧ (∀ j, j < k → ocode x.init.length (nop x.ops j) = 0) ∧ FrN w wr x 0 0) (fun i _ => x.ops.length - (intOf i).toNat)
  case atStart => exact ⟨0, by omega, rfl, fun j h => by omega, HF3.out⟩
  case round =>
    clear HF2 HF3 HI0 hF0 t0 t1 t2 k0 k1 f0 f1 s0 s1 s2 j0 j1 e0 e1
    obtain ⟨k, hk, rfl, hj, hf⟩ := hrel
    have HJ := Lib.hid hj
    have HF := Lib.hid hf
    clear hj hf
    obtain ⟨_, ⟨_, t0, t1, t2⟩, ⟨_, k0, k1, f0, f1⟩⟩ := HF.out
    by_cases hlt : k < x.ops.length
    case neg =>
      have H := Lib.hid (nf_good h18.out.1 h18.out.2 HV.out.1 HV.out.2.1 HV.out.2.2 (fun j hj => HJ.out j (by omega)))
      have hge : ¬ ((k : Int) < x.ops.length) := by omega
      go_wp2
      refine post_fault (g := w.heap.size + 1) (x := .int .i64 0) (y := .int .i64 0) Try.results10 rfl (HF.out.two.set _ _) ?_
      exact ⟨ret_val (by rw [H.out]), (HF.out.below.setCell (by simp) _).setCell (by simp) _⟩
    case pos =>
      obtain ⟨b, p, a1, a2, c1, c2, hao, hbl, ⟨q0, q1, q2⟩, hpre, hch⟩ := (HX0.out _ HF.out.below).ops.at_ hlt
      rw [hao]
      have HBAD := Lib.hid (fun h => nf_bad (x := x) (k := k) h18.out.1 h18.out.2 HV.out.1 HV.out.2.1 HV.out.2.2 hlt HJ.out h)
      have HST := Lib.hid (fun h => all_step (p := fun j => ocode x.init.length (nop x.ops j) = 0) HJ.out h)
      generalize hO : nop x.ops k = o at *
      have hB1 : Below wr.heap.size wr (wr.alloc (.cells #[.slice a1 o.pre.length c1, .slice a2 o.ch.length c2, .int .i64 o.cost] 53)) := by go_grown
      have HF1 := Lib.hid (HF.out.to hB1)
      have HOC := Lib.hid (operCode_any x.init.length o a1 a2 c1 c2 _ (hpre.to hB1 hB1.size) (hch.to hB1 hB1.size))
      clear hpre hch hB1
      by_cases hcode : ocode x.init.length o = 0
      · have H0 := Lib.hid hcode
        have hne : (ocode x.init.length o != 0) = false := by simpa using hcode
        clear hcode
        go_wp2_with (go_at_call 29; (with_reducible refine HOC.out.mono ?_); rintro e w4 ⟨rfl, hb4⟩; have HF4 := Lib.hid (HF1.out.to hb4); obtain ⟨_, ⟨_, u0, u1, u2⟩, ⟨_, l0, l1, g0, g1⟩⟩ := HF4.out; clear hb4)
        go_roundw
        case rel => exact ⟨k + 1, by omega, by go_num, HST.out H0.out, HF4.out⟩
        case measure => simp [intOf]; omega
      · have H := Lib.hid (HBAD.out hcode)
        have hne : (ocode x.init.length o != 0) = true := by simpa using hcode
        clear hcode
        go_wp2_with (go_at_call 29; (with_reducible refine HOC.out.mono ?_); rintro e w4 ⟨rfl, hb4⟩; have HF4 := Lib.hid (HF1.out.to hb4); obtain ⟨_, ⟨_, u0, u1, u2⟩, ⟨_, l0, l1, g0, g1⟩⟩ := HF4.out; clear hb4)
        refine post_fault (g := w.heap.size + 1) (x := .int .i64 (ocode x.init.length o)) (y := .int .i64 k) Try.results10 rfl (HF4.out.two.set _ _) ?_
        exact ⟨ret_val (by rw [H.out]), (HF4.out.below.setCell (by simp) _).setCell (by simp) _⟩
end Go.Proofs.Ytiafplmaigpmeaa
