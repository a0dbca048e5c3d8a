/- check of package strips; StateOk, StateFault, StepsFault and PlanFault of the reference. -/
import Derived.Test.YtenmegkokclolaaDoorKtf
namespace Go.Proofs.YtenmegkokclolaaDoor
open Go.RowKit
set_option linter.unusedSimpArgs false
set_option linter.unusedVariables false
set_option maxRecDepth 100000

def stB (m : Nat) (plan : List Int) (j : Nat) : Bool := decide (0 ≤ ix plan j ∧ ix plan j < m)
def planB (m : Nat) (plan : List Int) : Bool := (List.range plan.length).all (stB m plan)
theorem planB_bad {m : Nat} {plan : List Int} {k : Nat} (hk : k < plan.length) (h : stB m plan k = false) : planB m plan = false := by
  unfold planB
  rw [List.all_eq_false]
  exact ⟨k, by simpa using hk, by simp [h]⟩
theorem planB_good {m : Nat} {plan : List Int} (h : ∀ j, j < plan.length → stB m plan j = true) : planB m plan = true := by
  unfold planB
  rw [List.all_eq_true]
  intro k hk
  exact h k (by simpa using hk)
theorem planB_at {m : Nat} {plan : List Int} (h : planB m plan = true) {k : Nat} (hk : k < plan.length) : 0 ≤ ix plan k ∧ ix plan k < m := by
  unfold planB at h
  rw [List.all_eq_true] at h
  simpa [stB] using h k (by simpa using hk)
theorem stB_step {m : Nat} {plan : List Int} {k : Nat} (h : ∀ j, j < k → stB m plan j = true) (hk : stB m plan k = true) : ∀ j, j < k + 1 → stB m plan j = true := by
  intro j hj
  by_cases e : j = k
  · subst e; exact hk
  · exact h j (by omega)
/-- The fault of a plan for m operators. -/
def spF (m : Nat) (plan : List Int) : Int × Int := if 60 < plan.length then (2, -5) else if planB m plan then (0, 0) else (3, -6)
def stF (x : Tsk) (s : List Int) : Int × Int := if (tkF x).1 ≠ 0 then tkF x else if setB s x.n then (0, 0) else (5, -4)
def plF (x : Tsk) (plan : List Int) : Int × Int := if (tkF x).1 ≠ 0 then tkF x else spF x.ops.length plan
def ckF (x : Tsk) (s plan : List Int) : Int × Int := if (stF x s).1 ≠ 0 then stF x s else spF x.ops.length plan
theorem spF_zero {m : Nat} {plan : List Int} (h : (spF m plan).1 = 0) : spF m plan = (0, 0) ∧ plan.length ≤ 60 ∧ planB m plan = true := by
  unfold spF at h ⊢
  split at h
  · cases h
  · split at h
    · rename_i h1 h2
      exact ⟨by rw [if_neg h1, if_pos h2], by omega, h2⟩
    · cases h
theorem stF_zero {x : Tsk} {s : List Int} (h : (stF x s).1 = 0) : stF x s = (0, 0) ∧ (tkF x).1 = 0 ∧ setB s x.n = true := by
  unfold stF at h ⊢
  split at h
  · rename_i h1; exact absurd h h1
  · rename_i h1
    split at h
    · rename_i h2
      exact ⟨by rw [if_neg h1, if_pos h2], by omega, h2⟩
    · cases h
theorem plF_zero {x : Tsk} {plan : List Int} (h : (plF x plan).1 = 0) : plF x plan = (0, 0) ∧ (tkF x).1 = 0 ∧ plan.length ≤ 60 ∧ planB x.ops.length plan = true := by
  unfold plF at h ⊢
  split at h
  · rename_i h1; exact absurd h h1
  · rename_i h1
    rw [if_neg h1]
    exact ⟨(spF_zero h).1, by omega, (spF_zero h).2⟩
theorem ckF_zero {x : Tsk} {s plan : List Int} (h : (ckF x s plan).1 = 0) : ckF x s plan = (0, 0) ∧ (stF x s).1 = 0 ∧ plan.length ≤ 60 ∧ planB x.ops.length plan = true := by
  unfold ckF at h ⊢
  split at h
  · rename_i h1; exact absurd h h1
  · rename_i h1
    rw [if_neg h1]
    exact ⟨(spF_zero h).1, by omega, (spF_zero h).2⟩
/-- Task and state fit. -/
theorem stF_val {x : Tsk} {s : List Int} (h : (stF x s).1 = 0) : Val x x.n.toNat ∧ IsS s x.n.toNat := by
  have hv := tkF_val (stF_zero h).2.1
  refine ⟨hv, ?_⟩
  rw [← hv.eq]
  exact setB_iff.1 (stF_zero h).2.2

set_option maxHeartbeats 2000000 in
theorem planF_any (m : Nat) (hm : m ≤ maxLen) (a : Option Addr) (c : Nat) (plan : List Int) (w : World) (hP : Lst w w.heap.size a c plan) :
    Calls Tryd.prog 55 #[.int .i64 m, .slice a plan.length c] w fun e w' => e = .returned (faultV (spF m plan)) ∧ Below w.heap.size w w' := by
  have hpl := hP.len
  unfold maxLen at hpl hm
  have HP := Lib.hid (fun (W : World) (h : Below w.heap.size w W) => hP.to h h.size)
  clear hP
  have hT := Lib.hid (two_new w (.int .i64 0) (.int .i64 0) 27)
  by_cases h60 : 60 < plan.length
  · have H := Lib.hid (show spF m plan = (2, -5) by simp [spF, h60])
    have hd : decide ((60 : Int) < (plan.length : Int)) = true := by simp; omega
    go_enter Tryd.func55, Tryd.ntmps55
    go_wp2
    go_returns
    exact ⟨ret_val (by rw [H.out]), by go_grown⟩
  · have H := Lib.hid (show spF m plan = if planB m plan then (0, 0) else (3, -6) by simp [spF, h60])
    have hd : decide ((60 : Int) < (plan.length : Int)) = false := by simp; omega
    go_enter Tryd.func55, Tryd.ntmps55
    go_wp2
    go_loop [13] (fun i => ∃ k : Nat, k ≤ plan.length ∧ i = .int .i64 k ∧ ∀ j, j < k → stB m plan j = true) (fun i => plan.length - (intOf i).toNat)
    case atStart => exact ⟨0, by omega, rfl, by omega⟩
    case round =>
      obtain ⟨k, hk, rfl, hj⟩ := hrel
      have HJ := Lib.hid hj
      clear hj
      by_cases hlt : k < plan.length
      · have hB1 : Below w.heap.size w (w.alloc (.cells #[.int .i64 0, .int .i64 0] 27)) := by go_grown
        obtain ⟨b, o, rfl, _, hc⟩ := (HP.out _ hB1).nums.at_ hlt
        clear hB1
        by_cases h1 : ix plan k < 0
        · have HB := Lib.hid (planB_bad (m := m) hlt (by simp [stB]; omega))
          go_wp2
          go_returns
          exact ⟨ret_val (by rw [H.out, HB.out]; rfl), by go_grown⟩
        by_cases h2 : (m : Int) ≤ ix plan k
        · have HB := Lib.hid (planB_bad (m := m) hlt (by simp [stB]; omega))
          go_wp2
          go_returns
          exact ⟨ret_val (by rw [H.out, HB.out]; rfl), by go_grown⟩
        have HI := Lib.hid (show stB m plan k = true by simp [stB]; omega)
        go_wp2
        go_round
        case rel => exact ⟨k + 1, by omega, by go_num, stB_step HJ.out HI.out⟩
        case measure => simp [intOf]; omega
      · have hge : ¬ ((k : Int) < plan.length) := by omega
        go_wp2
        go_returns
        exact ⟨ret_val (by rw [H.out, planB_good (fun j hj => HJ.out j (by omega))]; rfl), by go_grown⟩


set_option maxHeartbeats 4000000 in
theorem check_any (x : Tsk) (a2 a3 : Option Addr) (c2 c3 : Nat) (s plan : List Int) (w : World) (hX : TskIn w w.heap.size x) (hS : Lst w w.heap.size a2 c2 s) (hP : Lst w w.heap.size a3 c3 plan) :
    Calls Tryd.prog 36 #[.agg #[.int .i64 x.n, .slice x.ai x.init.length x.ci, .slice x.ag x.goal.length x.cg, .slice x.ao x.ops.length x.co], .slice a2 s.length c2, .slice a3 plan.length c3] w fun e w' => e = .returned (faultV (ckF x s plan)) ∧ Below w.heap.size w w' := by
  have hpl := hP.len
  have hol := hX.len
  unfold maxLen at hpl hol
  have hB2 : Below w.heap.size w ((w.alloc (.cells #[.int .i64 x.n, .slice x.ai x.init.length x.ci, .slice x.ag x.goal.length x.cg, .slice x.ao x.ops.length x.co] 25)).alloc (.cells #[.int .i64 0, .int .i64 0] 27)) := by go_grown
  have HC := validate_any x _ (hX.to hB2 hB2.size)
  have HS := Lib.hid (fun (W : World) (h : Below w.heap.size w W) => hS.to h h.size)
  have HP := Lib.hid (fun (W : World) (h : Below w.heap.size w W) => hP.to h h.size)
  clear hX hS hP hB2
  have hF0 := Lib.hid (fr1_new w x 25 27)
  by_cases ht : (tkF x).1 = 0
  case neg =>
    have H := Lib.hid (show ckF x s plan = tkF x by simp [ckF, stF, ht])
    have hne : ((tkF x).1 != 0) = true := by simpa using ht
    have hne2 : ((tkF x).1 == 0) = false := by simpa using ht
    clear ht
    go_enter Tryd.func36, Tryd.ntmps36
    go_wp2_with (go_at_call 24; (with_reducible refine HC.mono ?_); rintro e w1 ⟨rfl, hbw⟩; have hF := Lib.hid (hF0.out.to hbw); obtain ⟨_, ⟨_, t0, t1, t2, t3⟩, ⟨_, k0, k1, f0, f1⟩⟩ := hF.out)
    have htw := hF.out.two
    have hbe := hF.out.below
    refine post_fault (g := w.heap.size + 1) (x := .int .i64 (tkF x).1) (y := .int .i64 (tkF x).2) Tryd.results36 rfl ?_ ?_
    · (repeat' (first | (with_reducible assumption) | (with_reducible exact two_new _ _ _ _) | (with_reducible exact (two_new _ _ _ _).pair) | (with_reducible exact Two.pair ‹_›) | (with_reducible refine Pair.set ?_ _ _) | (with_reducible refine Two.alloc ?_ _) | (with_reducible refine Pair.alloc ?_ _) | (with_reducible refine two1 ?_) | (with_reducible refine twoN ?_ _) | (with_reducible refine Pair.drew ?_) | (with_reducible refine Pair.drewN ?_ _) | (with_reducible refine Two.far ?_ ?_ _) | (with_reducible refine Pair.far ?_ ?_ _) | (simp; omega)))
    · refine ⟨ret_val (by rw [H.out]), ?_⟩
      (repeat' (first | (with_reducible assumption) | (with_reducible exact Below.refl _ _) | (with_reducible refine belowN ?_ _) | (with_reducible refine Below.alloc ?_ ?_ _) | (with_reducible refine Below.drew ?_) | (with_reducible refine Below.setCell ?_ ?_ _) | go_size))
  case pos =>
    have hv := tkF_val ht
    have h24 : x.n ≤ 24 := by have := hv.eq; have := hv.le; omega
    rw [tkF_fst ht] at HC
    have IS := Lib.hid (fun (W : World) (h : Below w.heap.size w W) => isSet_any a2 c2 s x.n W h24 (HS.out W h).nums (HS.out W h).len)
    cases hs : setB s x.n
    case false =>
      have H := Lib.hid (show ckF x s plan = (5, -4) by simp [ckF, stF, ht, hs])
      clear ht hv
      go_enter Tryd.func36, Tryd.ntmps36
      go_wp2_with (first
        | (go_at_call 24; (with_reducible refine HC.mono ?_); rintro e w1 ⟨rfl, hbw⟩; have hF := Lib.hid (hF0.out.to hbw); obtain ⟨_, ⟨_, t0, t1, t2, t3⟩, ⟨_, k0, k1, f0, f1⟩⟩ := hF.out)
        | (go_at_call 25; (with_reducible refine (IS.out _ (hF.out.alloc _).below).mono ?_); rintro e w2 ⟨rfl, rfl⟩))
      have htw := hF.out.two
      have hbe := hF.out.below
      refine post_fault (g := w.heap.size + 1) (x := .int .i64 5) (y := .int .i64 (-4)) Tryd.results36 rfl ?_ ?_
      · (repeat' (first | (with_reducible assumption) | (with_reducible exact two_new _ _ _ _) | (with_reducible exact (two_new _ _ _ _).pair) | (with_reducible exact Two.pair ‹_›) | (with_reducible refine Pair.set ?_ _ _) | (with_reducible refine Two.alloc ?_ _) | (with_reducible refine Pair.alloc ?_ _) | (with_reducible refine two1 ?_) | (with_reducible refine twoN ?_ _) | (with_reducible refine Pair.drew ?_) | (with_reducible refine Pair.drewN ?_ _) | (with_reducible refine Two.far ?_ ?_ _) | (with_reducible refine Pair.far ?_ ?_ _) | (simp; omega)))
      · refine ⟨ret_val (by rw [H.out]), ?_⟩
        (repeat' (first | (with_reducible assumption) | (with_reducible exact Below.refl _ _) | (with_reducible refine belowN ?_ _) | (with_reducible refine Below.alloc ?_ ?_ _) | (with_reducible refine Below.drew ?_) | (with_reducible refine Below.setCell ?_ ?_ _) | go_size))
    case true =>
      have H' : ckF x s plan = spF x.ops.length plan := by simp [ckF, stF, ht, hs]
      clear ht hv
      have HPF := Lib.hid (fun (W : World) (h : Below w.heap.size w W) => planF_any x.ops.length (by unfold maxLen; omega) a3 c3 plan W (HP.out W h))
      have H := Lib.hid H'
      clear H'
      generalize spF x.ops.length plan = r at *
      go_enter Tryd.func36, Tryd.ntmps36
      go_wp2_with (first
        | (go_at_call 24; (with_reducible refine HC.mono ?_); rintro e w1 ⟨rfl, hbw⟩; have hF := Lib.hid (hF0.out.to hbw); obtain ⟨_, ⟨_, t0, t1, t2, t3⟩, ⟨_, k0, k1, f0, f1⟩⟩ := hF.out)
        | (go_at_call 25; (with_reducible refine (IS.out _ (hF.out.alloc _).below).mono ?_); rintro e w2 ⟨rfl, rfl⟩)
        | (go_at_call 55; (with_reducible refine (HPF.out _ (hF.out.alloc (.cells #[.int .i64 0, .int .i64 0] 27)).below).mono ?_); rintro e w3 ⟨rfl, hb3⟩; have hF := Lib.hid ((hF.out.alloc (.cells #[.int .i64 0, .int .i64 0] 27)).to hb3); obtain ⟨_, ⟨_, t0, t1, t2, t3⟩, ⟨_, k0, k1, f0, f1⟩⟩ := hF.out))
      have htw := hF.out.two
      have hbe := hF.out.below
      refine post_fault (g := w.heap.size + 1) (x := .int .i64 r.1) (y := .int .i64 r.2) Tryd.results36 rfl ?_ ?_
      · (repeat' (first | (with_reducible assumption) | (with_reducible exact two_new _ _ _ _) | (with_reducible exact (two_new _ _ _ _).pair) | (with_reducible exact Two.pair ‹_›) | (with_reducible refine Pair.set ?_ _ _) | (with_reducible refine Two.alloc ?_ _) | (with_reducible refine Pair.alloc ?_ _) | (with_reducible refine two1 ?_) | (with_reducible refine twoN ?_ _) | (with_reducible refine Pair.drew ?_) | (with_reducible refine Pair.drewN ?_ _) | (with_reducible refine Two.far ?_ ?_ _) | (with_reducible refine Pair.far ?_ ?_ _) | (simp; omega)))
      · refine ⟨ret_val (by rw [H.out]), ?_⟩
        (repeat' (first | (with_reducible assumption) | (with_reducible exact Below.refl _ _) | (with_reducible refine belowN ?_ _) | (with_reducible refine Below.alloc ?_ ?_ _) | (with_reducible refine Below.drew ?_) | (with_reducible refine Below.setCell ?_ ?_ _) | go_size))
end Go.Proofs.YtenmegkokclolaaDoor
