/- StateOk, StateFault, StepsFault and PlanFault of the reference. -/
import Derived.Test.YtkflidnclndpkaaDoorKck
namespace Go.Proofs.YtkflidnclndpkaaDoor
open Go.RowKit
set_option linter.unusedSimpArgs false
set_option linter.unusedVariables false
set_option maxRecDepth 100000

theorem run_code (x y : Value) (W : World) : (Instr.field 27 (.agg #[x, y]) 0).run Tryd.prog W = .ok x W := by kernel_rfl

theorem stB_in (m : Nat) (plan : List Int) (k : Nat) : inB (ix plan k) 0 ((m : Int) - 1) = stB m plan k := by
  unfold inB stB
  rw [decide_eq_decide]
  omega

set_option maxHeartbeats 2000000 in
theorem stepsFault_any (m : Nat) (hm : m ≤ maxLen) (a : Option Addr) (c : Nat) (plan : List Int) (w : World) (hP : Lst w w.heap.size a c plan) :
    Calls Tryd.prog 26 #[.int .i64 m, .slice a plan.length c] w fun e w' => e = .returned (faultV (spF m plan)) ∧ Below w.heap.size w w' := by
  have hpl := hP.len
  unfold maxLen at hpl hm
  have HP := Lib.hid (fun (W : World) (h : Below w.heap.size w W) => hP.to h h.size)
  clear hP
  by_cases h60 : 60 < plan.length
  · have H := Lib.hid (show spF m plan = (2, -5) by simp [spF, h60])
    have hT := two_new w (.int .i64 0) (.int .i64 0) 27
    go_enter Tryd.func26, Tryd.ntmps26
    go_wp2_with (go_at_call 16; refine (at_any _ _ _).mono ?_; rintro e w3 ⟨rfl, hb3⟩; have hT4 := two_to hT hb3; obtain ⟨_, q0, q1, g0, g1⟩ := hT4)
    refine post_fault (g := w.heap.size) (x := .int .i64 2) (y := .int .i64 (-5)) Tryd.results26 rfl ((two_to hT hb3).set _ _) ?_
    exact ⟨ret_val (by rw [H.out]), ((((Below.refl _ w).alloc (Nat.le_refl _) _).trans (hb3.mono (by simp))).setCell (by simp) _).setCell (by simp) _⟩
  · have H := Lib.hid (show spF m plan = if planB m plan then (0, 0) else (3, -6) by simp [spF, h60])
    go_enter Tryd.func26, Tryd.ntmps26
    go_wp2
    go_loop [5] (fun i => ∃ k : Nat, k ≤ plan.length ∧ i = .int .i64 k ∧ ∀ j, j < k → stB m plan j = true) (fun i => plan.length - (intOf i).toNat)
    case atStart => exact ⟨0, by omega, rfl, by omega⟩
    case round =>
      obtain ⟨k, hk, rfl, hj⟩ := hrel
      have HJ := Lib.hid hj
      clear hj
      by_cases hlt : k < plan.length
      · have hB1 : Below w.heap.size w (w.alloc (.cells #[.int .i64 0, .int .i64 0] 27)) := by go_grown
        obtain ⟨b, o, rfl, _, hc⟩ := (HP.out _ hB1).nums.at_ hlt
        clear hB1
        have hs := stB_in m plan k
        cases hi : stB m plan k
        · rw [hi] at hs
          have HB := Lib.hid (planB_bad hlt hi)
          have hT := two_new w (.int .i64 0) (.int .i64 0) 27
          go_wp2_with (first
            | (go_at_call 22; refine (in_any _ _ _ _).mono ?_; rintro e w' ⟨rfl, rfl⟩)
            | (go_at_call 16; refine (at_any _ _ _).mono ?_; rintro e w3 ⟨rfl, hb3⟩; have hT4 := two_to hT hb3; obtain ⟨_, q0, q1, g0, g1⟩ := hT4))
          refine post_fault (g := w.heap.size) (x := .int .i64 3) (y := .int .i64 (-6)) Tryd.results26 rfl ((two_to hT hb3).set _ _) ?_
          exact ⟨ret_val (by rw [H.out, HB.out]; rfl), ((((Below.refl _ w).alloc (Nat.le_refl _) _).trans (hb3.mono (by simp))).setCell (by simp) _).setCell (by simp) _⟩
        · rw [hi] at hs
          have HI := Lib.hid hi
          clear hi
          go_wp2_with (go_at_call 22; refine (in_any _ _ _ _).mono ?_; rintro e w' ⟨rfl, rfl⟩)
          go_round
          case rel => exact ⟨k + 1, by omega, by go_num, stB_step HJ.out HI.out⟩
          case measure => simp [intOf]; omega
      · have hge : ¬ ((k : Int) < plan.length) := by omega
        go_wp2
        go_returns
        exact ⟨ret_val (by rw [H.out, planB_good (fun j hj => HJ.out j (by omega))]; rfl), by go_grown⟩

set_option maxHeartbeats 4000000 in
theorem planFault_any (x : Tsk) (a2 : Option Addr) (c2 : Nat) (plan : List Int) (w : World) (hX : TskIn w w.heap.size x) (hP : Lst w w.heap.size a2 c2 plan) :
    Calls Tryd.prog 8 #[.agg #[.int .i64 x.n, .slice x.ai x.init.length x.ci, .slice x.ag x.goal.length x.cg, .slice x.ao x.ops.length x.co], .slice a2 plan.length c2] w fun e w' => e = .returned (faultV (plF x plan)) ∧ Below w.heap.size w w' := by
  have hol := hX.len
  have hB2 : Below w.heap.size w ((w.alloc (.cells #[.int .i64 x.n, .slice x.ai x.init.length x.ci, .slice x.ag x.goal.length x.cg, .slice x.ao x.ops.length x.co] 25)).alloc (.cells #[.int .i64 0, .int .i64 0] 27)) := by go_grown
  have HC := taskFault_any x _ (hX.to hB2 hB2.size)
  have HP := Lib.hid (fun (W : World) (h : Below w.heap.size w W) => stepsFault_any x.ops.length hol a2 c2 plan W (hP.to h h.size))
  unfold maxLen at hol
  clear hX hP hB2
  have hF0 := Lib.hid (fr1_new w x 25 27)
  by_cases ht : (tkF x).1 = 0
  case neg =>
    have H := Lib.hid (show plF x plan = tkF x by simp [plF, ht])
    have hne : ((tkF x).1 != 0) = true := by simpa using ht
    have hne2 : ((tkF x).1 == 0) = false := by simpa using ht
    clear ht
    go_enter Tryd.func8, Tryd.ntmps8
    go_wp2_with (go_at_call 25; (with_reducible refine HC.mono ?_); rintro e w1 ⟨rfl, hbw⟩; have hF := Lib.hid (hF0.out.to hbw); obtain ⟨_, ⟨_, t0, t1, t2, t3⟩, ⟨_, k0, k1, f0, f1⟩⟩ := hF.out)
    have htw := hF.out.two
    have hbe := hF.out.below
    refine post_fault (g := w.heap.size + 1) (x := .int .i64 (tkF x).1) (y := .int .i64 (tkF x).2) Tryd.results8 rfl ?_ ?_
    · (repeat' (first | (with_reducible assumption) | (with_reducible exact two_new _ _ _ _) | (with_reducible exact (two_new _ _ _ _).pair) | (with_reducible exact Two.pair ‹_›) | (with_reducible refine Pair.set ?_ _ _) | (with_reducible refine Two.alloc ?_ _) | (with_reducible refine Pair.alloc ?_ _) | (with_reducible refine two1 ?_) | (with_reducible refine twoN ?_ _) | (with_reducible refine Pair.drew ?_) | (with_reducible refine Pair.drewN ?_ _) | (with_reducible refine Two.far ?_ ?_ _) | (with_reducible refine Pair.far ?_ ?_ _) | (simp; omega)))
    · refine ⟨ret_val (by rw [H.out]), ?_⟩
      (repeat' (first | (with_reducible assumption) | (with_reducible exact Below.refl _ _) | (with_reducible refine belowN ?_ _) | (with_reducible refine Below.alloc ?_ ?_ _) | (with_reducible refine Below.drew ?_) | (with_reducible refine Below.setCell ?_ ?_ _) | go_size))
  case pos =>
    rw [tkF_fst ht] at HC
    have H := Lib.hid (show plF x plan = spF x.ops.length plan by simp [plF, ht])
    clear ht
    go_enter Tryd.func8, Tryd.ntmps8
    go_wp2_with (first
      | (go_at_call 25; (with_reducible refine HC.mono ?_); rintro e w1 ⟨rfl, hbw⟩; have hF := Lib.hid (hF0.out.to hbw); obtain ⟨_, ⟨_, t0, t1, t2, t3⟩, ⟨_, k0, k1, f0, f1⟩⟩ := hF.out; have hF2 := Lib.hid (hF.out.alloc (.cells #[.int .i64 0, .int .i64 0] 27)); have hT2 := Lib.hid (two_new w1 (.int .i64 0) (.int .i64 0) 27))
      | (go_at_call 26; (with_reducible refine (HP.out _ hF2.out.below).mono ?_); rintro e w2 ⟨rfl, hb2⟩; have hF3 := Lib.hid (hF2.out.to hb2); have hT3 := Lib.hid (two_to hT2.out hb2); obtain ⟨_, _, ⟨_, k0, k1, f0, f1⟩⟩ := hF3.out; obtain ⟨_, q0, q1, g0, g1⟩ := hT3.out))
    have htw := hF3.out.two
    have hbe := hF3.out.below
    have h1 := hF.out.two.lt
    refine post_fault (g := w.heap.size + 1) (x := .int .i64 (spF x.ops.length plan).1) (y := .int .i64 (spF x.ops.length plan).2) Tryd.results8 rfl ?_ ?_
    · (repeat' (first | (with_reducible assumption) | (with_reducible exact two_new _ _ _ _) | (with_reducible exact (two_new _ _ _ _).pair) | (with_reducible exact Two.pair ‹_›) | (with_reducible refine Pair.set ?_ _ _) | (with_reducible refine Two.alloc ?_ _) | (with_reducible refine Pair.alloc ?_ _) | (with_reducible refine two1 ?_) | (with_reducible refine twoN ?_ _) | (with_reducible refine Pair.drew ?_) | (with_reducible refine Pair.drewN ?_ _) | (with_reducible refine Two.far ?_ ?_ _) | (with_reducible refine Pair.far ?_ ?_ _) | (simp; omega)))
    · refine ⟨ret_val (by rw [H.out]), ?_⟩
      (repeat' (first | (with_reducible assumption) | (with_reducible exact Below.refl _ _) | (with_reducible refine belowN ?_ _) | (with_reducible refine Below.alloc ?_ ?_ _) | (with_reducible refine Below.drew ?_) | (with_reducible refine Below.setCell ?_ ?_ _) | go_size))
end Go.Proofs.YtkflidnclndpkaaDoor
