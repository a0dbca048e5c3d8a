/- SolutionFault, FailureOf and Part of the reference. -/
import Derived.Test.YtkflidnclndpkaaDoorPpu
import Derived.Deep.CutRange
namespace Go.Proofs.YtkflidnclndpkaaDoor
open Go.RowKit
set_option linter.unusedSimpArgs false
set_option linter.unusedVariables false
set_option maxRecDepth 100000

set_option maxHeartbeats 4000000 in
theorem solutionFault_any (x : Tsk) (a3 : Option Addr) (c3 : Nat) (plan : List Int) (w : World) (hX : TskIn w w.heap.size x) (hP : Lst w w.heap.size a3 c3 plan) :
    Calls Tryd.prog 12 #[.agg #[.int .i64 x.n, .slice x.ai x.init.length x.ci, .slice x.ag x.goal.length x.cg, .slice x.ao x.ops.length x.co], .slice a3 plan.length c3] w fun e w' => e = .returned (faultV (soF x plan)) ∧ Below w.heap.size w w' := by
  have hB2 : Below w.heap.size w ((w.alloc (.cells #[.int .i64 x.n, .slice x.ai x.init.length x.ci, .slice x.ag x.goal.length x.cg, .slice x.ao x.ops.length x.co] 25)).alloc (.cells #[.int .i64 0, .int .i64 0] 27)) := by go_grown
  have HC := Lib.hid (planFault_any x a3 c3 plan _ (hX.to hB2 hB2.size) (hP.to hB2 hB2.size))
  have HX := Lib.hid (fun (W : World) (h : Below w.heap.size w W) => hX.to h h.size)
  have HP := Lib.hid (fun (W : World) (h : Below w.heap.size w W) => hP.to h h.size)
  clear hX hP hB2
  have hF0 := Lib.hid (fr1_new w x 25 27)
  by_cases ht : (plF x plan).1 = 0
  case neg =>
    have H := Lib.hid (show soF x plan = plF x plan by unfold soF; rw [if_pos ht])
    have hne : ((plF x plan).1 != 0) = true := by simpa using ht
    have hne2 : ((plF x plan).1 == 0) = false := by simpa using ht
    clear ht
    go_enter Tryd.func12, Tryd.ntmps12
    go_wp2_with (go_at_call 8; (with_reducible refine HC.out.mono ?_); rintro e w1 ⟨rfl, hbw⟩; have hF := Lib.hid (hF0.out.to hbw); have hF2 := Lib.hid (hF.out.alloc (.cells #[.int .i64 (plF x plan).1, .int .i64 (plF x plan).2] 27)); have hT2 := Lib.hid (two_new w1 (.int .i64 (plF x plan).1) (.int .i64 (plF x plan).2) 27); obtain ⟨_, ⟨_, t0, t1, t2, t3⟩, ⟨_, k0, k1, f0, f1⟩⟩ := hF2.out; obtain ⟨_, q0, q1, g0, g1⟩ := hT2.out)
    have htw := hF2.out.two
    have hbe := hF2.out.below
    have h1 := hF.out.two.lt
    refine post_fault (g := w.heap.size + 1) (x := .int .i64 (plF x plan).1) (y := .int .i64 (plF x plan).2) Tryd.results12 rfl ?_ ?_
    · (repeat' (first | (with_reducible assumption) | (with_reducible exact two_new _ _ _ _) | (with_reducible exact (two_new _ _ _ _).pair) | (with_reducible exact Two.pair ‹_›) | (with_reducible refine Pair.set ?_ _ _) | (with_reducible refine Two.alloc ?_ _) | (with_reducible refine Pair.alloc ?_ _) | (with_reducible refine two1 ?_) | (with_reducible refine twoN ?_ _) | (with_reducible refine Pair.drew ?_) | (with_reducible refine Pair.drewN ?_ _) | (with_reducible refine Two.far ?_ ?_ _) | (with_reducible refine Pair.far ?_ ?_ _) | (simp; omega)))
    · refine ⟨ret_val (by rw [H.out]), ?_⟩
      (repeat' (first | (with_reducible assumption) | (with_reducible exact Below.refl _ _) | (with_reducible refine belowN ?_ _) | (with_reducible refine Below.alloc ?_ ?_ _) | (with_reducible refine Below.drew ?_) | (with_reducible refine Below.setCell ?_ ?_ _) | go_size))
  case pos =>
    have hv := plF_val ht
    have HS := Lib.hid (fun (W : World) (h : Below w.heap.size w W) => solves_any x x.n.toNat hv.1 a3 c3 plan hv.2.2 W (HX.out W h) (HP.out W h))
    have hz := (plF_zero ht).1
    cases hs : solB x x.n.toNat x.init plan
    case true =>
      have H := Lib.hid (show soF x plan = (0, 0) by unfold soF; rw [if_neg (by simpa using ht), if_pos hs])
      rw [hz] at HC
      rw [hs] at HS
      clear ht hv hz
      go_enter Tryd.func12, Tryd.ntmps12
      go_wp2_with (first
        | (go_at_call 8; (with_reducible refine HC.out.mono ?_); rintro e w1 ⟨rfl, hbw⟩; have hF := Lib.hid (hF0.out.to hbw); have hl9 := hF.out.two.lt; have hF2 := Lib.hid (hF.out.alloc (.cells #[.int .i64 0, .int .i64 0] 27)); have hT2 := Lib.hid (two_new w1 (.int .i64 0) (.int .i64 0) 27); obtain ⟨_, ⟨_, t0, t1, t2, t3⟩, ⟨_, k0, k1, f0, f1⟩⟩ := hF2.out; obtain ⟨_, q0, q1, g0, g1⟩ := hT2.out)
        | (go_at_call 29; (with_reducible refine (HS.out _ hF2.out.below).mono ?_); rintro e w2 ⟨rfl, hb2⟩; have hF3 := Lib.hid (hF2.out.to hb2); have hT3 := Lib.hid (two_to hT2.out hb2); obtain ⟨_, ⟨_, t0, t1, t2, t3⟩, ⟨_, k0, k1, f0, f1⟩⟩ := hF3.out; obtain ⟨_, q0, q1, g0, g1⟩ := hT3.out))
      refine post_fault (g := w.heap.size + 1) (x := .int .i64 0) (y := .int .i64 0) Tryd.results12 rfl (hF3.out.two.set _ _) ?_
      exact ⟨ret_val (by rw [H.out]), (hF3.out.below.setCell (by simp) _).setCell (by simp) _⟩
    case false =>
      have H := Lib.hid (show soF x plan = (11, -8) by unfold soF; rw [if_neg (by simpa using ht), if_neg (by simp [hs])])
      rw [hz] at HC
      rw [hs] at HS
      clear ht hv hz
      go_enter Tryd.func12, Tryd.ntmps12
      go_wp2_with (first
        | (go_at_call 8; (with_reducible refine HC.out.mono ?_); rintro e w1 ⟨rfl, hbw⟩; have hF := Lib.hid (hF0.out.to hbw); have hl9 := hF.out.two.lt; have hF2 := Lib.hid (hF.out.alloc (.cells #[.int .i64 0, .int .i64 0] 27)); have hT2 := Lib.hid (two_new w1 (.int .i64 0) (.int .i64 0) 27); obtain ⟨_, ⟨_, t0, t1, t2, t3⟩, ⟨_, k0, k1, f0, f1⟩⟩ := hF2.out; obtain ⟨_, q0, q1, g0, g1⟩ := hT2.out)
        | (go_at_call 29; (with_reducible refine (HS.out _ hF2.out.below).mono ?_); rintro e w2 ⟨rfl, hb2⟩; have hF3 := Lib.hid (hF2.out.to hb2); have hT3 := Lib.hid (two_to hT2.out hb2); obtain ⟨_, ⟨_, t0, t1, t2, t3⟩, ⟨_, k0, k1, f0, f1⟩⟩ := hF3.out; obtain ⟨_, q0, q1, g0, g1⟩ := hT3.out) | (go_at_call 16; refine (at_any _ _ _).mono ?_; rintro e w3 ⟨rfl, hb3⟩; have hF4 := Lib.hid (hF3.out.to hb3); have hT4 := Lib.hid (two_to hT3.out hb3); obtain ⟨_, _, ⟨_, k0, k1, f0, f1⟩⟩ := hF4.out; obtain ⟨_, q0, q1, g0, g1⟩ := hT4.out))
      have htw := hF4.out.two
      have hbe := hF4.out.below
      have h1 := hF.out.two.lt
      refine post_fault (g := w.heap.size + 1) (x := .int .i64 11) (y := .int .i64 (-8)) Tryd.results12 rfl ?_ ?_
      · (repeat' (first | (with_reducible assumption) | (with_reducible exact two_new _ _ _ _) | (with_reducible exact (two_new _ _ _ _).pair) | (with_reducible exact Two.pair ‹_›) | (with_reducible refine Pair.set ?_ _ _) | (with_reducible refine Two.alloc ?_ _) | (with_reducible refine Pair.alloc ?_ _) | (with_reducible refine two1 ?_) | (with_reducible refine twoN ?_ _) | (with_reducible refine Pair.drew ?_) | (with_reducible refine Pair.drewN ?_ _) | (with_reducible refine Two.far ?_ ?_ _) | (with_reducible refine Pair.far ?_ ?_ _) | (simp; omega)))
      · refine ⟨ret_val (by rw [H.out]), ?_⟩
        (repeat' (first | (with_reducible assumption) | (with_reducible exact Below.refl _ _) | (with_reducible refine belowN ?_ _) | (with_reducible refine Below.alloc ?_ ?_ _) | (with_reducible refine Below.drew ?_) | (with_reducible refine Below.setCell ?_ ?_ _) | go_size))

set_option maxHeartbeats 4000000 in
theorem failureOf_any (x : Tsk) (n : Nat) (hv : Val x n) (a3 : Option Addr) (c3 : Nat) (plan : List Int) (hpl : planB x.ops.length plan = true) (w : World) (hX : TskIn w w.heap.size x) (hL : Lst w w.heap.size a3 c3 plan) :
    Calls Tryd.prog 11 #[.agg #[.int .i64 x.n, .slice x.ai x.init.length x.ci, .slice x.ag x.goal.length x.cg, .slice x.ao x.ops.length x.co], .slice a3 plan.length c3] w fun e w' => e = .returned (.int .i64 (failF x n plan)) ∧ Below w.heap.size w w' := by
  have hln := hL.len
  unfold maxLen at hln
  have HV := Lib.hid hv
  have HPL := Lib.hid hpl
  have hP := Lib.hid (Alive.cons (boxS w.heap.size x) (tbox_new w x 25) ((Alive.cons (tskS x) hX (Alive.cons (lstS a3 c3 plan) hL (Alive.cons (belS w) (Below.refl _ w) (Alive.nil w)))).to ((Below.refl _ _).alloc (Nat.le_refl _) (.cells #[.int .i64 x.n, .slice x.ai x.init.length x.ci, .slice x.ag x.goal.length x.cg, .slice x.ao x.ops.length x.co] 25))))
  clear hX hL hv hpl
  go_enter Tryd.func11, Tryd.ntmps11
  go_wp2
  go_loopw [5] (fun i wr => ∃ k : Nat, k ≤ plan.length ∧ i = .int .i64 k ∧ Alive [boxS w.heap.size x, tskS x, lstS a3 c3 plan, belS w] wr ∧ ∀ j, j < k → (runTo x n x.init plan (j + 1)).isSome = true) (fun i _ => plan.length - (intOf i).toNat)
  case atStart => exact ⟨0, by omega, rfl, hP.out, fun j h => by omega⟩
  case round =>
    obtain ⟨k, hk, rfl, hal, hj⟩ := hrel
    have hP := Lib.hid hal
    have HJ := Lib.hid hj
    clear hal hj
    obtain ⟨_, t0, t1, t2, t3⟩ := (show TBox _ _ x from hP.out (boxS w.heap.size x) (by simp))
    by_cases hlt : k < plan.length
    case neg =>
      obtain rfl : k = plan.length := by omega
      have HM := Lib.hid (fail_miss HJ.out)
      cases hs : solB x n x.init plan
      case true =>
        rw [hs, if_pos rfl] at HM
        go_wp2_with (go_at_call 29; have hTk := Lib.hid (show TskIn _ _ x from hP.out (tskS x) (by simp)); have hLp := Lib.hid (show Lst _ _ a3 c3 plan from hP.out (lstS a3 c3 plan) (by simp)); (with_reducible refine (solves_any x n HV.out a3 c3 plan HPL.out _ hTk.out hLp.out).mono ?_); rintro e wQ ⟨rfl, hb⟩; have hP := Lib.hid (hP.out.to hb); clear hb; obtain ⟨_, t0, t1, t2, t3⟩ := (show TBox _ _ x from hP.out (boxS w.heap.size x) (by simp)))
        go_ret
        exact ⟨ret_int HM.out.symm, hP.out (belS w) (by simp)⟩
      case false =>
        rw [hs, if_neg (by simp)] at HM
        go_wp2_with (go_at_call 29; have hTk := Lib.hid (show TskIn _ _ x from hP.out (tskS x) (by simp)); have hLp := Lib.hid (show Lst _ _ a3 c3 plan from hP.out (lstS a3 c3 plan) (by simp)); (with_reducible refine (solves_any x n HV.out a3 c3 plan HPL.out _ hTk.out hLp.out).mono ?_); rintro e wQ ⟨rfl, hb⟩; have hP := Lib.hid (hP.out.to hb); clear hb; obtain ⟨_, t0, t1, t2, t3⟩ := (show TBox _ _ x from hP.out (boxS w.heap.size x) (by simp)))
        go_ret
        exact ⟨ret_int HM.out.symm, hP.out (belS w) (by simp)⟩
    case pos =>
      have HAL := Lib.hid (fun (V : World) (h : Below wr.heap.size wr V) => hP.out.to h)
      obtain ⟨b, o, rfl, _, _⟩ := (show Lst _ _ a3 c3 plan from hP.out (lstS a3 c3 plan) (by simp)).nums.at_ hlt
      have hcap := (show Lst _ _ _ c3 plan from hP.out (lstS (some ⟨b, o, none⟩) c3 plan) (by simp)).le
      have hmax := (show Lst _ _ _ c3 plan from hP.out (lstS (some ⟨b, o, none⟩) c3 plan) (by simp)).max
      have HSO := Lib.hid (fun (V : World) (h : Below wr.heap.size wr V) => (⟨(show TBox V w.heap.size x from HAL.out V h (boxS w.heap.size x) (by simp)).c0, (show TBox V w.heap.size x from HAL.out V h (boxS w.heap.size x) (by simp)).c1, (show TBox V w.heap.size x from HAL.out V h (boxS w.heap.size x) (by simp)).c2, (show TBox V w.heap.size x from HAL.out V h (boxS w.heap.size x) (by simp)).c3, h⟩ : V.cell? ⟨w.heap.size, 0, none⟩ = some (.int .i64 x.n) ∧ V.cell? ⟨w.heap.size, 1, none⟩ = some (.slice x.ai x.init.length x.ci) ∧ V.cell? ⟨w.heap.size, 2, none⟩ = some (.slice x.ag x.goal.length x.cg) ∧ V.cell? ⟨w.heap.size, 3, none⟩ = some (.slice x.ao x.ops.length x.co) ∧ Below wr.heap.size wr V))
      have hww := Below.refl wr.heap.size wr
      have hwk : IntKind.i64.wrap ((k : Int) + 1) = (k : Int) + 1 := IntWalk.i64_in _ (by omega)
      have hk1 : (k : Int) + 1 ≤ c3 := by omega
      have hk0 : (0 : Int) ≤ (k : Int) + 1 := by omega
      have hkn : ((k : Int) + 1).toNat = k + 1 := by omega
      have HEn := Lib.hid (fun (V : World) => ends_take x n HV.out x.ai (some ⟨b, o, none⟩) x.ci c3 x.init plan HPL.out (k + 1) hlt V)
      clear hP hmax
      go_wp2
      cases hr : runTo x n x.init plan (k + 1)
      case none =>
        have HF := Lib.hid (fail_hit hlt hr HJ.out)
        rw [hr] at HEn
        go_region_held3 (fun V => V.cell? ⟨w.heap.size, 0, none⟩ = some (.int .i64 x.n) ∧ V.cell? ⟨w.heap.size, 1, none⟩ = some (.slice x.ai x.init.length x.ci) ∧ V.cell? ⟨w.heap.size, 2, none⟩ = some (.slice x.ag x.goal.length x.cg) ∧ V.cell? ⟨w.heap.size, 3, none⟩ = some (.slice x.ao x.ops.length x.co) ∧ Below wr.heap.size wr V) (first | (refine ⟨?_, ?_, ?_, ?_, ?_⟩ <;> assumption) | (exact HSO.out _ hww.drew) | (exact HSO.out _ (bel_step (last5 (by assumption)) (by assumption)))) (first | (go_at_call 28; refine (HEn.out _ ?_ ?_ ?_).mono ?_; (exact (show TskIn _ _ x from HAL.out _ (last5 (by assumption)) (tskS x) (by simp))); (exact (show TskIn _ _ x from HAL.out _ (last5 (by assumption)) (tskS x) (by simp)).init); (exact (show Lst _ _ _ c3 plan from HAL.out _ (last5 (by assumption)) (lstS (some ⟨b, o, none⟩) c3 plan) (by simp))); rintro e w' ⟨ve, rfl, hse, hb⟩))
        all_goals
          have HB9 := Lib.hid (show Below w.heap.size w w' from HAL.out w' (last5 (by assumption)) (belS w) (by simp))
          go_wp2
          go_ret
          exact ⟨ret_int HF.out.symm, HB9.out⟩
      case some t =>
        rw [hr] at HEn
        go_region_held3 (fun V => V.cell? ⟨w.heap.size, 0, none⟩ = some (.int .i64 x.n) ∧ V.cell? ⟨w.heap.size, 1, none⟩ = some (.slice x.ai x.init.length x.ci) ∧ V.cell? ⟨w.heap.size, 2, none⟩ = some (.slice x.ag x.goal.length x.cg) ∧ V.cell? ⟨w.heap.size, 3, none⟩ = some (.slice x.ao x.ops.length x.co) ∧ Below wr.heap.size wr V) (first | (refine ⟨?_, ?_, ?_, ?_, ?_⟩ <;> assumption) | (exact HSO.out _ hww.drew) | (exact HSO.out _ (bel_step (last5 (by assumption)) (by assumption)))) (first | (go_at_call 28; refine (HEn.out _ ?_ ?_ ?_).mono ?_; (exact (show TskIn _ _ x from HAL.out _ (last5 (by assumption)) (tskS x) (by simp))); (exact (show TskIn _ _ x from HAL.out _ (last5 (by assumption)) (tskS x) (by simp)).init); (exact (show Lst _ _ _ c3 plan from HAL.out _ (last5 (by assumption)) (lstS (some ⟨b, o, none⟩) c3 plan) (by simp))); rintro e w' ⟨ve, rfl, hse, hb⟩))
        all_goals
          have HB9 := Lib.hid (HAL.out w' (last5 (by assumption)))
          go_wp2
          go_roundw
          case rel =>
            refine ⟨k + 1, hlt, by go_num, HB9.out, fun j hjk => ?_⟩
            by_cases e : j = k
            · subst e; rw [hr]; rfl
            · exact HJ.out j (by omega)
          case measure => simp [intOf]; omega
end Go.Proofs.YtkflidnclndpkaaDoor
