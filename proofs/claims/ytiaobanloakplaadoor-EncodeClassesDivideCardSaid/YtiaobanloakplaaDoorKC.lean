/- Kck, Kcr, Kap in one text. -/
import Derived.Test.YtiaobanloakplaaDoorKtf

/- check of package strips; StateOk, StateFault, StepsFault and PlanFault of the reference. -/
section
namespace Go.Proofs.YtiaobanloakplaaDoor
open Go.RowKit
set_option linter.unusedSimpArgs false
set_option linter.unusedVariables false
set_option maxRecDepth 100000

def stB (m : Nat) (plan : List Int) (j : Nat) : Bool := decide (0 ≤ ix plan j ∧ ix plan j < m)
def planB (m : Nat) (plan : List Int) : Bool := (List.range plan.length).all (stB m plan)
theorem planB_bad {m : Nat} {plan : List Int} {k : Nat} (hk : k < plan.length) (h : stB m plan k = false) : planB m plan = false := by
  unfold planB
  rw [List.all_eq_false]
  exact ⟨k, by simpa using hk, by simp [h]⟩
theorem planB_good {m : Nat} {plan : List Int} (h : ∀ j, j < plan.length → stB m plan j = true) : planB m plan = true := by
  unfold planB
  rw [List.all_eq_true]
  intro k hk
  exact h k (by simpa using hk)
theorem planB_at {m : Nat} {plan : List Int} (h : planB m plan = true) {k : Nat} (hk : k < plan.length) : 0 ≤ ix plan k ∧ ix plan k < m := by
  unfold planB at h
  rw [List.all_eq_true] at h
  simpa [stB] using h k (by simpa using hk)
theorem stB_step {m : Nat} {plan : List Int} {k : Nat} (h : ∀ j, j < k → stB m plan j = true) (hk : stB m plan k = true) : ∀ j, j < k + 1 → stB m plan j = true := by
  intro j hj
  by_cases e : j = k
  · subst e; exact hk
  · exact h j (by omega)
/-- The fault of a plan for m operators. -/
def spF (m : Nat) (plan : List Int) : Int × Int := if 60 < plan.length then (2, -5) else if planB m plan then (0, 0) else (3, -6)
def stF (x : Tsk) (s : List Int) : Int × Int := if (tkF x).1 ≠ 0 then tkF x else if setB s x.n then (0, 0) else (5, -4)
def plF (x : Tsk) (plan : List Int) : Int × Int := if (tkF x).1 ≠ 0 then tkF x else spF x.ops.length plan
def ckF (x : Tsk) (s plan : List Int) : Int × Int := if (stF x s).1 ≠ 0 then stF x s else spF x.ops.length plan
theorem spF_zero {m : Nat} {plan : List Int} (h : (spF m plan).1 = 0) : spF m plan = (0, 0) ∧ plan.length ≤ 60 ∧ planB m plan = true := by
  unfold spF at h ⊢
  split at h
  · cases h
  · split at h
    · rename_i h1 h2
      exact ⟨by rw [if_neg h1, if_pos h2], by omega, h2⟩
    · cases h
theorem stF_zero {x : Tsk} {s : List Int} (h : (stF x s).1 = 0) : stF x s = (0, 0) ∧ (tkF x).1 = 0 ∧ setB s x.n = true := by
  unfold stF at h ⊢
  split at h
  · rename_i h1; exact absurd h h1
  · rename_i h1
    split at h
    · rename_i h2
      exact ⟨by rw [if_neg h1, if_pos h2], by omega, h2⟩
    · cases h
theorem plF_zero {x : Tsk} {plan : List Int} (h : (plF x plan).1 = 0) : plF x plan = (0, 0) ∧ (tkF x).1 = 0 ∧ plan.length ≤ 60 ∧ planB x.ops.length plan = true := by
  unfold plF at h ⊢
  split at h
  · rename_i h1; exact absurd h h1
  · rename_i h1
    rw [if_neg h1]
    exact ⟨(spF_zero h).1, by omega, (spF_zero h).2⟩
theorem ckF_zero {x : Tsk} {s plan : List Int} (h : (ckF x s plan).1 = 0) : ckF x s plan = (0, 0) ∧ (stF x s).1 = 0 ∧ plan.length ≤ 60 ∧ planB x.ops.length plan = true := by
  unfold ckF at h ⊢
  split at h
  · rename_i h1; exact absurd h h1
  · rename_i h1
    rw [if_neg h1]
    exact ⟨(spF_zero h).1, by omega, (spF_zero h).2⟩
/-- Task and state fit. -/
theorem stF_val {x : Tsk} {s : List Int} (h : (stF x s).1 = 0) : Val x x.n.toNat ∧ IsS s x.n.toNat := by
  have hv := tkF_val (stF_zero h).2.1
  refine ⟨hv, ?_⟩
  rw [← hv.eq]
  exact setB_iff.1 (stF_zero h).2.2

set_option maxHeartbeats 2000000 in
theorem planF_any (m : Nat) (hm : m ≤ maxLen) (a : Option Addr) (c : Nat) (plan : List Int) (w : World) (hP : Lst w w.heap.size a c plan) :
    Calls Tryd.prog 80 #[.int .i64 m, .slice a plan.length c] w fun e w' => e = .returned (faultV (spF m plan)) ∧ Below w.heap.size w w' := by
  have hpl := hP.len
  unfold maxLen at hpl hm
  have HP := Lib.hid (fun (W : World) (h : Below w.heap.size w W) => hP.to h h.size)
  clear hP
  have hT := Lib.hid (two_new w (.int .i64 0) (.int .i64 0) 28)
  by_cases h60 : 60 < plan.length
  · have H := Lib.hid (show spF m plan = (2, -5) by simp [spF, h60])
    have hd : decide ((60 : Int) < (plan.length : Int)) = true := by simp; omega
    go_enter Tryd.func80, Tryd.ntmps80
    go_wp2
    go_returns
    exact ⟨ret_val (by rw [H.out]), by go_grown⟩
  · have H := Lib.hid (show spF m plan = if planB m plan then (0, 0) else (3, -6) by simp [spF, h60])
    have hd : decide ((60 : Int) < (plan.length : Int)) = false := by simp; omega
    go_enter Tryd.func80, Tryd.ntmps80
    go_wp2
    go_loop [13] (fun i => ∃ k : Nat, k ≤ plan.length ∧ i = .int .i64 k ∧ ∀ j, j < k → stB m plan j = true) (fun i => plan.length - (intOf i).toNat)
    case atStart => exact ⟨0, by omega, rfl, by omega⟩
    case round =>
      obtain ⟨k, hk, rfl, hj⟩ := hrel
      have HJ := Lib.hid hj
      clear hj
      by_cases hlt : k < plan.length
      · have hB1 : Below w.heap.size w (w.alloc (.cells #[.int .i64 0, .int .i64 0] 28)) := by go_grown
        obtain ⟨b, o, rfl, _, hc⟩ := (HP.out _ hB1).nums.at_ hlt
        clear hB1
        by_cases h1 : ix plan k < 0
        · have HB := Lib.hid (planB_bad (m := m) hlt (by simp [stB]; omega))
          go_wp2
          go_returns
          exact ⟨ret_val (by rw [H.out, HB.out]; rfl), by go_grown⟩
        by_cases h2 : (m : Int) ≤ ix plan k
        · have HB := Lib.hid (planB_bad (m := m) hlt (by simp [stB]; omega))
          go_wp2
          go_returns
          exact ⟨ret_val (by rw [H.out, HB.out]; rfl), by go_grown⟩
        have HI := Lib.hid (show stB m plan k = true by simp [stB]; omega)
        go_wp2
        go_round
        case rel => exact ⟨k + 1, by omega, by go_num, stB_step HJ.out HI.out⟩
        case measure => simp [intOf]; omega
      · have hge : ¬ ((k : Int) < plan.length) := by omega
        go_wp2
        go_returns
        exact ⟨ret_val (by rw [H.out, planB_good (fun j hj => HJ.out j (by omega))]; rfl), by go_grown⟩


set_option maxHeartbeats 4000000 in
theorem check_any (x : Tsk) (a2 a3 : Option Addr) (c2 c3 : Nat) (s plan : List Int) (w : World) (hX : TskIn w w.heap.size x) (hS : Lst w w.heap.size a2 c2 s) (hP : Lst w w.heap.size a3 c3 plan) :
    Calls Tryd.prog 63 #[.agg #[.int .i64 x.n, .slice x.ai x.init.length x.ci, .slice x.ag x.goal.length x.cg, .slice x.ao x.ops.length x.co], .slice a2 s.length c2, .slice a3 plan.length c3] w fun e w' => e = .returned (faultV (ckF x s plan)) ∧ Below w.heap.size w w' := by
  have hpl := hP.len
  have hol := hX.len
  unfold maxLen at hpl hol
  have hB2 : Below w.heap.size w ((w.alloc (.cells #[.int .i64 x.n, .slice x.ai x.init.length x.ci, .slice x.ag x.goal.length x.cg, .slice x.ao x.ops.length x.co] 25)).alloc (.cells #[.int .i64 0, .int .i64 0] 28)) := by go_grown
  have HC := validate_any x _ (hX.to hB2 hB2.size)
  have HS := Lib.hid (fun (W : World) (h : Below w.heap.size w W) => hS.to h h.size)
  have HP := Lib.hid (fun (W : World) (h : Below w.heap.size w W) => hP.to h h.size)
  clear hX hS hP hB2
  have hF0 := Lib.hid (fr1_new w x 25 28)
  by_cases ht : (tkF x).1 = 0
  case neg =>
    have H := Lib.hid (show ckF x s plan = tkF x by simp [ckF, stF, ht])
    have hne : ((tkF x).1 != 0) = true := by simpa using ht
    have hne2 : ((tkF x).1 == 0) = false := by simpa using ht
    clear ht
    go_enter Tryd.func63, Tryd.ntmps63
    go_wp2_with (go_at_call 66; (with_reducible refine HC.mono ?_); rintro e w1 ⟨rfl, hbw⟩; have hF := Lib.hid (hF0.out.to hbw); obtain ⟨_, ⟨_, t0, t1, t2, t3⟩, ⟨_, k0, k1, f0, f1⟩⟩ := hF.out)
    have htw := hF.out.two
    have hbe := hF.out.below
    refine post_fault (g := w.heap.size + 1) (x := .int .i64 (tkF x).1) (y := .int .i64 (tkF x).2) Tryd.results63 rfl ?_ ?_
    · (repeat' (first | (with_reducible assumption) | (with_reducible exact two_new _ _ _ _) | (with_reducible exact (two_new _ _ _ _).pair) | (with_reducible exact Two.pair ‹_›) | (with_reducible refine Pair.set ?_ _ _) | (with_reducible refine Two.alloc ?_ _) | (with_reducible refine Pair.alloc ?_ _) | (with_reducible refine two1 ?_) | (with_reducible refine twoN ?_ _) | (with_reducible refine Pair.drew ?_) | (with_reducible refine Pair.drewN ?_ _) | (with_reducible refine Two.far ?_ ?_ _) | (with_reducible refine Pair.far ?_ ?_ _) | (simp; omega)))
    · refine ⟨ret_val (by rw [H.out]), ?_⟩
      (repeat' (first | (with_reducible assumption) | (with_reducible exact Below.refl _ _) | (with_reducible refine belowN ?_ _) | (with_reducible refine Below.alloc ?_ ?_ _) | (with_reducible refine Below.drew ?_) | (with_reducible refine Below.setCell ?_ ?_ _) | go_size))
  case pos =>
    have hv := tkF_val ht
    have h24 : x.n ≤ 24 := by have := hv.eq; have := hv.le; omega
    rw [tkF_fst ht] at HC
    have IS := Lib.hid (fun (W : World) (h : Below w.heap.size w W) => isSet_any a2 c2 s x.n W h24 (HS.out W h).nums (HS.out W h).len)
    cases hs : setB s x.n
    case false =>
      have H := Lib.hid (show ckF x s plan = (5, -4) by simp [ckF, stF, ht, hs])
      clear ht hv
      go_enter Tryd.func63, Tryd.ntmps63
      go_wp2_with (first
        | (go_at_call 66; (with_reducible refine HC.mono ?_); rintro e w1 ⟨rfl, hbw⟩; have hF := Lib.hid (hF0.out.to hbw); obtain ⟨_, ⟨_, t0, t1, t2, t3⟩, ⟨_, k0, k1, f0, f1⟩⟩ := hF.out)
        | (go_at_call 53; (with_reducible refine (IS.out _ (hF.out.alloc _).below).mono ?_); rintro e w2 ⟨rfl, rfl⟩))
      have htw := hF.out.two
      have hbe := hF.out.below
      refine post_fault (g := w.heap.size + 1) (x := .int .i64 5) (y := .int .i64 (-4)) Tryd.results63 rfl ?_ ?_
      · (repeat' (first | (with_reducible assumption) | (with_reducible exact two_new _ _ _ _) | (with_reducible exact (two_new _ _ _ _).pair) | (with_reducible exact Two.pair ‹_›) | (with_reducible refine Pair.set ?_ _ _) | (with_reducible refine Two.alloc ?_ _) | (with_reducible refine Pair.alloc ?_ _) | (with_reducible refine two1 ?_) | (with_reducible refine twoN ?_ _) | (with_reducible refine Pair.drew ?_) | (with_reducible refine Pair.drewN ?_ _) | (with_reducible refine Two.far ?_ ?_ _) | (with_reducible refine Pair.far ?_ ?_ _) | (simp; omega)))
      · refine ⟨ret_val (by rw [H.out]), ?_⟩
        (repeat' (first | (with_reducible assumption) | (with_reducible exact Below.refl _ _) | (with_reducible refine belowN ?_ _) | (with_reducible refine Below.alloc ?_ ?_ _) | (with_reducible refine Below.drew ?_) | (with_reducible refine Below.setCell ?_ ?_ _) | go_size))
    case true =>
      have H' : ckF x s plan = spF x.ops.length plan := by simp [ckF, stF, ht, hs]
      clear ht hv
      have HPF := Lib.hid (fun (W : World) (h : Below w.heap.size w W) => planF_any x.ops.length (by unfold maxLen; omega) a3 c3 plan W (HP.out W h))
      have H := Lib.hid H'
      clear H'
      generalize spF x.ops.length plan = r at *
      go_enter Tryd.func63, Tryd.ntmps63
      go_wp2_with (first
        | (go_at_call 66; (with_reducible refine HC.mono ?_); rintro e w1 ⟨rfl, hbw⟩; have hF := Lib.hid (hF0.out.to hbw); obtain ⟨_, ⟨_, t0, t1, t2, t3⟩, ⟨_, k0, k1, f0, f1⟩⟩ := hF.out)
        | (go_at_call 53; (with_reducible refine (IS.out _ (hF.out.alloc _).below).mono ?_); rintro e w2 ⟨rfl, rfl⟩)
        | (go_at_call 80; (with_reducible refine (HPF.out _ (hF.out.alloc (.cells #[.int .i64 0, .int .i64 0] 28)).below).mono ?_); rintro e w3 ⟨rfl, hb3⟩; have hF := Lib.hid ((hF.out.alloc (.cells #[.int .i64 0, .int .i64 0] 28)).to hb3); obtain ⟨_, ⟨_, t0, t1, t2, t3⟩, ⟨_, k0, k1, f0, f1⟩⟩ := hF.out))
      have htw := hF.out.two
      have hbe := hF.out.below
      refine post_fault (g := w.heap.size + 1) (x := .int .i64 r.1) (y := .int .i64 r.2) Tryd.results63 rfl ?_ ?_
      · (repeat' (first | (with_reducible assumption) | (with_reducible exact two_new _ _ _ _) | (with_reducible exact (two_new _ _ _ _).pair) | (with_reducible exact Two.pair ‹_›) | (with_reducible refine Pair.set ?_ _ _) | (with_reducible refine Two.alloc ?_ _) | (with_reducible refine Pair.alloc ?_ _) | (with_reducible refine two1 ?_) | (with_reducible refine twoN ?_ _) | (with_reducible refine Pair.drew ?_) | (with_reducible refine Pair.drewN ?_ _) | (with_reducible refine Two.far ?_ ?_ _) | (with_reducible refine Pair.far ?_ ?_ _) | (simp; omega)))
      · refine ⟨ret_val (by rw [H.out]), ?_⟩
        (repeat' (first | (with_reducible assumption) | (with_reducible exact Below.refl _ _) | (with_reducible refine belowN ?_ _) | (with_reducible refine Below.alloc ?_ ?_ _) | (with_reducible refine Below.drew ?_) | (with_reducible refine Below.setCell ?_ ?_ _) | go_size))
end Go.Proofs.YtiaobanloakplaaDoor
end

/- StateOk, StateFault, StepsFault and PlanFault of the reference. -/
section
namespace Go.Proofs.YtiaobanloakplaaDoor
open Go.RowKit
set_option linter.unusedSimpArgs false
set_option linter.unusedVariables false
set_option maxRecDepth 100000

theorem run_code (x y : Value) (W : World) : (Instr.field 28 (.agg #[x, y]) 0).run Tryd.prog W = .ok x W := by kernel_rfl

set_option maxHeartbeats 1000000 in
theorem stateOk_any (x : Tsk) (a2 : Option Addr) (c2 : Nat) (s : List Int) (w : World) (h0 : 0 ≤ x.n) (h24 : x.n ≤ 24) (hS : Lst w w.heap.size a2 c2 s) :
    Calls Tryd.prog 17 #[.agg #[.int .i64 x.n, .slice x.ai x.init.length x.ci, .slice x.ag x.goal.length x.cg, .slice x.ao x.ops.length x.co], .slice a2 s.length c2] w fun e w' => e = .returned (.bool (setB s x.n)) ∧ Below w.heap.size w w' := by
  have hS2 := hS.to (B' := (w.alloc (.cells #[.int .i64 x.n, .slice x.ai x.init.length x.ci, .slice x.ag x.goal.length x.cg, .slice x.ao x.ops.length x.co] 25)).heap.size) ((Below.refl _ w).alloc (Nat.le_refl _) (.cells #[.int .i64 x.n, .slice x.ai x.init.length x.ci, .slice x.ag x.goal.length x.cg, .slice x.ao x.ops.length x.co] 25)) (by simp)
  have HI := Lib.hid (isSetR_any a2 c2 s x.n _ h0 h24 hS2.nums hS2.len)
  clear hS hS2
  go_enter Tryd.func17, Tryd.ntmps17
  go_wp2_with (go_at_call 35; (with_reducible refine HI.out.mono ?_); rintro e w1 ⟨rfl, hb⟩)
  go_ret
  exact ⟨rfl, ((Below.refl _ _).alloc (Nat.le_refl _) _).trans (hb.mono (by simp))⟩

theorem stB_in (m : Nat) (plan : List Int) (k : Nat) : inB (ix plan k) 0 ((m : Int) - 1) = stB m plan k := by
  unfold inB stB
  rw [decide_eq_decide]
  omega

end Go.Proofs.YtiaobanloakplaaDoor
end

/- Applicable of package strips. -/
section
namespace Go.Proofs.YtiaobanloakplaaDoor
open Go.RowKit
set_option linter.unusedSimpArgs false
set_option linter.unusedVariables false
set_option maxRecDepth 100000

theorem spF_nil (m : Nat) : spF m [] = (0, 0) := by simp [spF, planB]
theorem ckF_s (x : Tsk) (s : List Int) : ckF x s [] = stF x s := by
  unfold ckF
  split
  · rfl
  · rename_i h
    rw [spF_nil, (stF_zero (x := x) (s := s) (by omega)).1]
theorem setB_nil (n : Int) : setB [] n = true := by simp [setB]
theorem ckF_p (x : Tsk) (plan : List Int) : ckF x [] plan = plF x plan := by
  unfold ckF plF stF
  rw [setB_nil]
  by_cases h : (tkF x).1 = 0 <;> simp [h]
theorem check_s (x : Tsk) (a2 : Option Addr) (c2 : Nat) (s : List Int) (w : World) (hX : TskIn w w.heap.size x) (hS : Lst w w.heap.size a2 c2 s) :
    Calls Tryd.prog 63 #[.agg #[.int .i64 x.n, .slice x.ai x.init.length x.ci, .slice x.ag x.goal.length x.cg, .slice x.ao x.ops.length x.co], .slice a2 s.length c2, .slice none 0 0] w fun e w' => e = .returned (faultV (stF x s)) ∧ Below w.heap.size w w' := by
  have h := check_any x a2 none c2 0 s [] w hX hS (lst_nil _ _)
  rw [ckF_s] at h
  exact h
theorem check_p (x : Tsk) (a3 : Option Addr) (c3 : Nat) (plan : List Int) (w : World) (hX : TskIn w w.heap.size x) (hP : Lst w w.heap.size a3 c3 plan) :
    Calls Tryd.prog 63 #[.agg #[.int .i64 x.n, .slice x.ai x.init.length x.ci, .slice x.ag x.goal.length x.cg, .slice x.ao x.ops.length x.co], .slice none 0 0, .slice a3 plan.length c3] w fun e w' => e = .returned (faultV (plF x plan)) ∧ Below w.heap.size w w' := by
  have h := check_any x none a3 0 c3 [] plan w hX (lst_nil _ _) hP
  rw [ckF_p] at h
  exact h

/-- A slice that holds xs and a fault come back; all below is kept. -/
def SlF (w : World) (f : Int × Int) (xs : List Int) (e : Ending) (w' : World) : Prop := ∃ v, e = .returned (.tuple #[v, faultV f]) ∧ SliceOf w' v xs ∧ Below w.heap.size w w'
theorem sliceOf_nil (w : World) : SliceOf w (.slice none 0 0) [] := ⟨none, 0, rfl, nums_nil _ _ _, by simp, by simp [maxLen]⟩
theorem SliceOf.to {w w' : World} {v : Value} {xs : List Int} (h : SliceOf w v xs) (hb : Below w.heap.size w w') : SliceOf w' v xs := by
  obtain ⟨a, c, rfl, hn, h1, h2⟩ := h
  exact ⟨a, c, rfl, hn.to hb hb.size, h1, h2⟩
theorem SliceOf.set {w : World} {v : Value} {xs : List Int} (h : SliceOf w v xs) : ∃ a c, v = .slice a xs.length c ∧ Lst w w.heap.size a c xs := by
  obtain ⟨a, c, rfl, hn, h1, h2⟩ := h
  exact ⟨a, c, rfl, hn, h1, h2⟩

def appM (x : Tsk) (s : List Int) : List Int := if (stF x s).1 = 0 then facs x.ops.length (fun k => subB (opr x.ops k).pre s) else []

theorem grown_fr1 {w W W' : World} {x : Tsk} {u v : Int} {row : Option Nat} (h : Fr1 w W x u v) (hg : W.grownBy W' row) (hr : ∀ q, row = some q → w.heap.size + 1 < q) : Fr1 w W' x u v := by
  have hb : Below (w.heap.size + 2) W W' := Below.grown (Below.refl _ _) hg (by have := h.two.lt; omega) (fun q hq => by have := hr q hq; omega)
  exact ⟨h.below.trans (hb.mono (by omega)), h.box.to hb (by omega), h.two.to hb (by omega)⟩

end Go.Proofs.YtiaobanloakplaaDoor
end
