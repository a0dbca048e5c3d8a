/- CostOf, Ends, Works and Solves of the reference. -/
import Derived.Test.YtkflidnclndpkaaDoorKaq
namespace Go.Proofs.YtkflidnclndpkaaDoor
open Go.RowKit
set_option linter.unusedSimpArgs false
set_option linter.unusedVariables false
set_option maxRecDepth 100000

/-- The state after the first k steps, if they can be executed. -/
def runTo (x : Tsk) (n : Nat) (s plan : List Int) : Nat → Option (List Int)
  | 0 => some s
  | k + 1 => match runTo x n s plan k with
    | none => none
    | some t => if subB (opn x (ix plan k)).pre t then some (aftL n (opn x (ix plan k)).add (opn x (ix plan k)).del t) else none
theorem runTo_step {x : Tsk} {n : Nat} {s plan t : List Int} {k : Nat} (h : runTo x n s plan k = some t) : runTo x n s plan (k + 1) = if subB (opn x (ix plan k)).pre t then some (aftL n (opn x (ix plan k)).add (opn x (ix plan k)).del t) else none := by
  simp only [runTo, h]
theorem runTo_none {x : Tsk} {n : Nat} {s plan : List Int} {k : Nat} (h : runTo x n s plan k = none) : ∀ j, k ≤ j → runTo x n s plan j = none := by
  intro j hj
  induction j with
  | zero => have : k = 0 := by omega
            subst this; exact h
  | succ j ih =>
    by_cases e : k = j + 1
    · subst e; exact h
    · simp only [runTo, ih (by omega)]

theorem TBox.drewN {w : World} {g : Nat} {x : Tsk} (h : TBox w g x) (n : Nat) : TBox (w.drewN n) g x := ⟨h.lt, h.c0, h.c1, h.c2, h.c3⟩
theorem TBox.drew {w : World} {g : Nat} {x : Tsk} (h : TBox w g x) : TBox w.drew g x := ⟨h.lt, h.c0, h.c1, h.c2, h.c3⟩

def EndsPost (w : World) (r : Option (List Int)) (e : Ending) (w' : World) : Prop := ∃ v, e = .returned (.tuple #[v, .bool r.isSome]) ∧ SliceOf w' v (r.getD []) ∧ Below w.heap.size w w'

set_option maxHeartbeats 4000000 in
theorem ends_any (x : Tsk) (n : Nat) (hv : Val x n) (a2 a3 : Option Addr) (c2 c3 : Nat) (s plan : List Int) (hpl : planB x.ops.length plan = true) (w : World) (hX : TskIn w w.heap.size x) (hS : Lst w w.heap.size a2 c2 s) (hP : Lst w w.heap.size a3 c3 plan) :
    Calls Tryd.prog 28 #[.agg #[.int .i64 x.n, .slice x.ai x.init.length x.ci, .slice x.ag x.goal.length x.cg, .slice x.ao x.ops.length x.co], .slice a2 s.length c2, .slice a3 plan.length c3] w (EndsPost w (runTo x n s plan plan.length)) := by
  have hpn := hP.len
  unfold maxLen at hpn
  have HX := Lib.hid (fun (W : World) (h : Below w.heap.size w W) => hX.to h h.size)
  have HP := Lib.hid (fun (W : World) (h : Below w.heap.size w W) => hP.to h h.size)
  have HS := Lib.hid (fun (W : World) (h : Below w.heap.size w W) => hS.to h h.size)
  clear hX hP hS
  have HV := Lib.hid hv
  have HPL := Lib.hid hpl
  clear hv hpl
  have HB0 := Lib.hid (tbox_new w x 25)
  go_enter Tryd.func28, Tryd.ntmps28
  go_wp2
  go_loopw [1, 8] (fun v i wr => ∃ (k : Nat) (cur : List Int), k ≤ plan.length ∧ i = .int .i64 k ∧ runTo x n s plan k = some cur ∧ SliceOf wr v cur ∧ Below w.heap.size w wr ∧ TBox wr w.heap.size x) (fun _ i _ => plan.length - (intOf i).toNat)
  case atStart =>
    have h1 : Below w.heap.size w (w.alloc (.cells #[.int .i64 x.n, .slice x.ai x.init.length x.ci, .slice x.ag x.goal.length x.cg, .slice x.ao x.ops.length x.co] 25)) := by go_grown
    exact ⟨0, s, by omega, rfl, rfl, ⟨_, _, rfl, (HS.out _ h1).nums, (HS.out _ h1).le, (HS.out _ h1).max⟩, h1, HB0.out⟩
  case round =>
    obtain ⟨k, cur, hk, rfl, hrun, hsl, hbe, hbox⟩ := hrel
    have HBE := Lib.hid hbe
    have HBX := Lib.hid hbox
    have HR := Lib.hid hrun
    obtain ⟨ac, cc, rfl, hcur⟩ := hsl.set
    have HCU := Lib.hid hcur
    clear hbe hbox hrun hsl hcur
    by_cases hlt : k < plan.length
    · obtain ⟨hz, t0, t1, t2, t3⟩ := HBX.out
      obtain ⟨b, o, hao3, _, hc⟩ := (HP.out _ HBE.out).nums.at_ hlt
      obtain ⟨g0, g1⟩ := planB_at HPL.out hlt
      have HS1 := Lib.hid (runTo_step HR.out)
      obtain ⟨m, hm⟩ := Int.eq_ofNat_of_zero_le g0
      unfold opn at HS1
      rw [hm, Int.toNat_natCast] at HS1
      rw [hm] at hc g0 g1
      have hlt2 : m < x.ops.length := by omega
      clear hm
      rw [hao3]
      have HA := Lib.hid (applies_any x ac cc cur m hlt2 wr.drew (HX.out _ HBE.out.drew) (HCU.out.to (Below.refl _ _).drew (Nat.le_refl _)))
      go_wp2
      refine wp_region_still_tail 6 (by kernel_rfl) (by kernel_rfl) ?_
      simp only [List.take_succ_cons, List.take_zero, List.drop_succ_cons, List.drop_zero]
      change wpStill _ _ wr.drew _ _ _
      repeat still_step
      try refine wpStill_nil ?_
      change wpList _ _ _ _ _ wr.drew
      cases hsub : subB (opr x.ops m).pre cur
      · have HN := Lib.hid (show runTo x n s plan plan.length = none from runTo_none (by rw [HS1.out, hsub]; rfl) _ (by omega))
        go_wp2_with (go_at_call 43; (with_reducible refine HA.out.mono ?_); rintro e w5 ⟨rfl, hb5⟩)
        go_ret2
        refine ⟨_, by rw [HN.out]; rfl, by rw [HN.out]; exact sliceOf_nil _, HBE.out.drew.trans (hb5.mono HBE.out.size)⟩
      · have HN := Lib.hid (show runTo x n s plan (k + 1) = some (aftL n (opr x.ops m).add (opr x.ops m).del cur) by rw [HS1.out, hsub]; rfl)
        go_wp2_with (first
          | (go_at_call 43; (with_reducible refine HA.out.mono ?_); rintro e w5 ⟨rfl, hb5⟩))
        clear hsub
        have hb6 : Below wr.heap.size wr w5 := (Below.refl _ _).drew.trans hb5
        have hbx5 := HBX.out.to hb6 hz
        have HBX5 := Lib.hid hbx5
        have HBE5 := Lib.hid (HBE.out.trans (hb6.mono HBE.out.size))
        have HB6 := Lib.hid hb6
        have hc5 := (hb6.cell (p := ⟨b, o + k, none⟩) ‹_›).trans hc
        have HF := Lib.hid (afterR_any x n HV.out.eq HV.out.le ac cc cur m hlt2 w5.drew (HX.out _ HBE5.out.drew) (HCU.out.to (HB6.out.drew) HB6.out.size))
        clear hb6 hb5 hbx5 t0 t1 t2 t3 hc
        obtain ⟨_, t0, t1, t2, t3⟩ := HBX5.out
        refine wp_region_still_tail 6 (by kernel_rfl) (by kernel_rfl) ?_
        simp only [List.take_succ_cons, List.take_zero, List.drop_succ_cons, List.drop_zero]
        change wpStill _ _ w5.drew _ _ _
        repeat still_step
        try refine wpStill_nil ?_
        change wpList _ _ _ _ _ w5.drew
        go_wp2_with (go_at_call 44; (with_reducible refine HF.out.mono ?_); rintro e w7 ⟨v7, rfl, hown7, hb7⟩)
        have HO7 := Lib.hid hown7
        clear hown7
        go_roundw
        case rel =>
          have h8 : Below w5.heap.size w5 w7 := (Below.refl _ _).drew.trans hb7
          exact ⟨k + 1, _, by omega, by go_num, HN.out, sliceOf_own HO7.out, HBE5.out.trans (h8.mono HBE5.out.size), HBX5.out.to h8 (by have := HB6.out.size; omega)⟩
        case measure => simp [intOf]; omega
    · have hge : ¬ ((k : Int) < plan.length) := by omega
      obtain rfl : k = plan.length := by omega
      go_wp2
      go_ret2
      refine ⟨_, by rw [HR.out]; rfl, ?_, HBE.out⟩
      rw [HR.out]
      exact ⟨_, _, rfl, HCU.out.nums, HCU.out.le, HCU.out.max⟩

/-- A plan leads from s to the goal. -/
def solB (x : Tsk) (n : Nat) (s plan : List Int) : Bool := match runTo x n s plan plan.length with | none => false | some t => subB x.goal t

set_option maxHeartbeats 2000000 in
theorem works_any (x : Tsk) (n : Nat) (hv : Val x n) (a2 a3 : Option Addr) (c2 c3 : Nat) (s plan : List Int) (hpl : planB x.ops.length plan = true) (w : World) (hX : TskIn w w.heap.size x) (hS : Lst w w.heap.size a2 c2 s) (hP : Lst w w.heap.size a3 c3 plan) :
    Calls Tryd.prog 45 #[.agg #[.int .i64 x.n, .slice x.ai x.init.length x.ci, .slice x.ag x.goal.length x.cg, .slice x.ao x.ops.length x.co], .slice a2 s.length c2, .slice a3 plan.length c3] w fun e w' => e = .returned (.bool (solB x n s plan)) ∧ Below w.heap.size w w' := by
  have hB1 : Below w.heap.size w (w.alloc (.cells #[.int .i64 x.n, .slice x.ai x.init.length x.ci, .slice x.ag x.goal.length x.cg, .slice x.ao x.ops.length x.co] 25)) := by go_grown
  have HE := Lib.hid (ends_any x n hv a2 a3 c2 c3 s plan hpl _ (hX.to hB1 hB1.size) (hS.to hB1 hB1.size) (hP.to hB1 hB1.size))
  have HG := Lib.hid (fun (W : World) (h : Below w.heap.size w W) => hX.goal.to h h.size)
  have HB0 := Lib.hid (tbox_new w x 25)
  have HB1 := Lib.hid hB1
  clear hX hS hP hB1
  cases hr : runTo x n s plan plan.length
  · have H := Lib.hid (show solB x n s plan = false by simp [solB, hr])
    rw [hr] at HE
    clear hr
    go_enter Tryd.func45, Tryd.ntmps45
    go_wp2_with (go_at_call 28; (with_reducible refine HE.out.mono ?_); rintro e w1 ⟨v, rfl, hsl, hb⟩; have HSL := Lib.hid hsl; clear hsl)
    go_ret
    exact ⟨ret_bool H.out.symm, HB1.out.trans (hb.mono HB1.out.size)⟩
  · rename_i t
    have H := Lib.hid (show solB x n s plan = subB x.goal t by simp [solB, hr])
    rw [hr] at HE
    clear hr
    go_enter Tryd.func45, Tryd.ntmps45
    go_wp2_with (first
      | (go_at_call 28; (with_reducible refine HE.out.mono ?_); rintro e w1 ⟨v, rfl, hsl, hb⟩; obtain ⟨av, cv, rfl, hlv⟩ := hsl.set; have HLV := Lib.hid hlv; clear hsl hlv; have hB2 := Lib.hid (HB1.out.trans (hb.mono HB1.out.size)); have hG2 := Lib.hid (HG.out _ hB2.out); obtain ⟨_, t0, t1, t2, t3⟩ := HB0.out.to hb HB0.out.lt)
      | (go_at_call 54; refine (subset_any _ _ _ _ x.goal t _ hG2.out.nums HLV.out.nums hG2.out.len HLV.out.len).mono ?_; rintro e w2 ⟨rfl, rfl⟩))
    go_ret
    exact ⟨ret_bool H.out.symm, hB2.out⟩

set_option maxHeartbeats 1000000 in
theorem solves_any (x : Tsk) (n : Nat) (hv : Val x n) (a3 : Option Addr) (c3 : Nat) (plan : List Int) (hpl : planB x.ops.length plan = true) (w : World) (hX : TskIn w w.heap.size x) (hP : Lst w w.heap.size a3 c3 plan) :
    Calls Tryd.prog 29 #[.agg #[.int .i64 x.n, .slice x.ai x.init.length x.ci, .slice x.ag x.goal.length x.cg, .slice x.ao x.ops.length x.co], .slice a3 plan.length c3] w fun e w' => e = .returned (.bool (solB x n x.init plan)) ∧ Below w.heap.size w w' := by
  have hB1 : Below w.heap.size w (w.alloc (.cells #[.int .i64 x.n, .slice x.ai x.init.length x.ci, .slice x.ag x.goal.length x.cg, .slice x.ao x.ops.length x.co] 25)) := by go_grown
  have HE := Lib.hid (works_any x n hv x.ai a3 x.ci c3 x.init plan hpl _ (hX.to hB1 hB1.size) (hX.init.to hB1 hB1.size) (hP.to hB1 hB1.size))
  have HB1 := Lib.hid hB1
  clear hX hP hB1
  go_enter Tryd.func29, Tryd.ntmps29
  go_wp2_with (go_at_call 45; (with_reducible refine HE.out.mono ?_); rintro e w1 ⟨rfl, hb⟩)
  go_ret
  exact ⟨rfl, HB1.out.trans (hb.mono HB1.out.size)⟩
end Go.Proofs.YtkflidnclndpkaaDoor
