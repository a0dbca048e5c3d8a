/- StateOk, StateFault, StepsFault and PlanFault of the reference. -/
import Derived.Test.YthlafcmabeiagaaKck
namespace Go.Proofs.Ythlafcmabeiagaa
open Go.RowKit
set_option linter.unusedSimpArgs false
set_option linter.unusedVariables false
set_option maxRecDepth 100000

theorem run_code (x y : Value) (W : World) : (Instr.field 28 (.agg #[x, y]) 0).run Try.prog W = .ok x W := by kernel_rfl

theorem stB_in (m : Nat) (plan : List Int) (k : Nat) : inB (ix plan k) 0 ((m : Int) - 1) = stB m plan k := by
  unfold inB stB
  rw [decide_eq_decide]
  omega

set_option maxHeartbeats 2000000 in
theorem stepsFault_any (m : Nat) (hm : m ≤ maxLen) (a : Option Addr) (c : Nat) (plan : List Int) (w : World) (hP : Lst w w.heap.size a c plan) :
    Calls Try.prog 18 #[.int .i64 m, .slice a plan.length c] w fun e w' => e = .returned (faultV (spF m plan)) ∧ Below w.heap.size w w' := by
  have hpl := hP.len
  unfold maxLen at hpl hm
  have HP := Lib.hid (fun (W : World) (h : Below w.heap.size w W) => hP.to h h.size)
  clear hP
  by_cases h60 : 60 < plan.length
  · have H := Lib.hid (show spF m plan = (2, -5) by simp [spF, h60])
    have hT := two_new w (.int .i64 0) (.int .i64 0) 28
    go_enter Try.func18, Try.ntmps18
    go_wp2_with (go_at_call 11; refine (at_any _ _ _).mono ?_; rintro e w3 ⟨rfl, hb3⟩; have hT4 := two_to hT hb3; obtain ⟨_, q0, q1, g0, g1⟩ := hT4)
    refine post_fault (g := w.heap.size) (x := .int .i64 2) (y := .int .i64 (-5)) Try.results18 rfl ((two_to hT hb3).set _ _) ?_
    exact ⟨ret_val (by rw [H.out]), ((((Below.refl _ w).alloc (Nat.le_refl _) _).trans (hb3.mono (by simp))).setCell (by simp) _).setCell (by simp) _⟩
  · have H := Lib.hid (show spF m plan = if planB m plan then (0, 0) else (3, -6) by simp [spF, h60])
    go_enter Try.func18, Try.ntmps18
    go_wp2
    go_loop [5] (fun i => ∃ k : Nat, k ≤ plan.length ∧ i = .int .i64 k ∧ ∀ j, j < k → stB m plan j = true) (fun i => plan.length - (intOf i).toNat)
    case atStart => exact ⟨0, by omega, rfl, by omega⟩
    case round =>
      obtain ⟨k, hk, rfl, hj⟩ := hrel
      have HJ := Lib.hid hj
      clear hj
      by_cases hlt : k < plan.length
      · have hB1 : Below w.heap.size w (w.alloc (.cells #[.int .i64 0, .int .i64 0] 28)) := by go_grown
        obtain ⟨b, o, rfl, _, hc⟩ := (HP.out _ hB1).nums.at_ hlt
        clear hB1
        have hs := stB_in m plan k
        cases hi : stB m plan k
        · rw [hi] at hs
          have HB := Lib.hid (planB_bad hlt hi)
          have hT := two_new w (.int .i64 0) (.int .i64 0) 28
          go_wp2_with (first
            | (go_at_call 15; refine (in_any _ _ _ _).mono ?_; rintro e w' ⟨rfl, rfl⟩)
            | (go_at_call 11; refine (at_any _ _ _).mono ?_; rintro e w3 ⟨rfl, hb3⟩; have hT4 := two_to hT hb3; obtain ⟨_, q0, q1, g0, g1⟩ := hT4))
          refine post_fault (g := w.heap.size) (x := .int .i64 3) (y := .int .i64 (-6)) Try.results18 rfl ((two_to hT hb3).set _ _) ?_
          exact ⟨ret_val (by rw [H.out, HB.out]; rfl), ((((Below.refl _ w).alloc (Nat.le_refl _) _).trans (hb3.mono (by simp))).setCell (by simp) _).setCell (by simp) _⟩
        · rw [hi] at hs
          have HI := Lib.hid hi
          clear hi
          go_wp2_with (go_at_call 15; refine (in_any _ _ _ _).mono ?_; rintro e w' ⟨rfl, rfl⟩)
          go_round
          case rel => exact ⟨k + 1, by omega, by go_num, stB_step HJ.out HI.out⟩
          case measure => simp [intOf]; omega
      · have hge : ¬ ((k : Int) < plan.length) := by omega
        go_wp2
        go_returns
        exact ⟨ret_val (by rw [H.out, planB_good (fun j hj => HJ.out j (by omega))]; rfl), by go_grown⟩

end Go.Proofs.Ythlafcmabeiagaa
