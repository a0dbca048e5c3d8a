/- The law MultiPlansMatchSpec. -/
import Derived.Test.YthlafcmabeiagaaMl1
namespace Go.Proofs.Ythlafcmabeiagaa
open Go.RowKit
set_option linter.unusedSimpArgs false
set_option linter.unusedVariables false
set_option maxRecDepth 100000

set_option maxHeartbeats 8000000 in
theorem mp_bad (x : MT) (A : Option Addr) (c : Nat) (plan : List Int) (w : World) (hX : MTIn w w.heap.size x) (hP : Lst w w.heap.size A c plan) (hr : (ckM x x.init plan).1 ≠ 0) :
    Calls Try.prog 4 #[.agg #[.slice x.az x.sizes.length x.cz, .slice x.ai x.init.length x.ci, .slice x.ag x.goal.length x.cg, .slice x.ao x.ops.length x.co], .slice A plan.length c] w fun e w' => e = .returned (.bool true) ∧ Below w.heap.size w w' := by
  have HX0 := Lib.hid (fun (W : World) (h : Below w.heap.size w W) => hX.to h h.size)
  have HP0 := Lib.hid (fun (W : World) (h : Below w.heap.size w W) => hP.to h h.size)
  have HB0 := Lib.hid (al_b w (.cells #[.slice x.az x.sizes.length x.cz, .slice x.ai x.init.length x.ci, .slice x.ag x.goal.length x.cg, .slice x.ao x.ops.length x.co] 26))
  have HBX := Lib.hid (mbox_new w x 26)
  have HNF := Lib.hid (multiFault_any x _ (HX0.out _ HB0.out))
  have HNS := Lib.hid (fun (W : World) (h : Below w.heap.size w W) => msolve_any x A c plan W (HX0.out W h) (HP0.out W h))
  have HNC := Lib.hid (fun (W : World) (h : Below w.heap.size w W) => mcost_any x A c plan W (HX0.out W h) (HP0.out W h))
  have e1 : slB x plan = false := by unfold slB; rw [if_neg hr]
  have e2 : coN x plan = 0 := by unfold coN; rw [if_neg hr]
  have hmo := Nat.le_trans hX.ops.le hX.ops.max
  have HSP := Lib.hid (fun (W : World) (h : Below w.heap.size w W) => stepsFault_any x.ops.length hmo A c plan W (HP0.out W h))
  have hpl := hP.len
  unfold maxLen at hpl
  rw [e1] at HNS
  rw [e2] at HNC
  have hne : ((ckM x x.init plan).1 == 0) = false := by simpa using hr
  have hck : ckM x x.init plan = if (mfF x).1 ≠ 0 then mfF x else if msB x.sizes x.init = false then (5, -4) else spF x.ops.length plan := rfl
  clear hX hP e1 e2 hmo
  generalize ckM x x.init plan = r at *
  by_cases h0 : (mfF x).1 = 0
  case neg =>
    rw [if_pos h0] at hck
    rw [← hck] at HNF
    clear h0 hck hr
    go_enter Try.func4, Try.ntmps4
    go_wp2_with (go_at_call 7; (with_reducible refine HNF.out.mono ?_); rintro e wF ⟨rfl, hb⟩; have hM := Lib.hid (wm_new (HB0.out.trans (hb.mono HB0.out.size)) (HBX.out.to hb HBX.out.lt) r.1 r.2); clear hb; obtain ⟨_, ⟨_, t0, t1, t2, t3⟩, _, ⟨_, k0, k1, f0, f1⟩⟩ := hM.out)
    generalize wF.heap.size = g at *
    go_loopw [6, 7] (fun v i wr => v = .int .i64 0 ∧ i = .int .i64 0 ∧ WM w wr x g r.1 r.2) (fun _ _ _ => 0)
    case atStart => exact ⟨rfl, rfl, hM.out⟩
    case round =>
      clear t0 t1 t2 t3 k0 k1 f0 f1 hM
      obtain ⟨rfl, rfl, hm⟩ := hrel
      have hM := Lib.hid hm
      clear hm
      obtain ⟨_, ⟨_, t0, t1, t2, t3⟩, _, ⟨_, k0, k1, f0, f1⟩⟩ := hM.out
      go_wp2_with (first | (go_at_call 19; (with_reducible refine (HNS.out _ hM.out.below).mono ?_); rintro e wS ⟨rfl, hb⟩; have hM := Lib.hid ((hM.out.to hb).to (al_b wS (.cells #[.int .i64 r.1, .int .i64 r.2] 28))); have hT1 := Lib.hid (two_new wS (.int .i64 r.1) (.int .i64 r.2) 28); clear hb; obtain ⟨_, ⟨_, t0, t1, t2, t3⟩, _, ⟨_, k0, k1, f0, f1⟩⟩ := hM.out) | (go_at_call 20; (with_reducible refine (HNC.out _ hM.out.below).mono ?_); rintro e wC ⟨rfl, hb⟩; have hM := Lib.hid ((hM.out.to hb).to (al_b wC (.cells #[.int .i64 r.1, .int .i64 r.2] 28))); have hT1 := Lib.hid (two_to (two_to hT1.out hb) (al_b wC (.cells #[.int .i64 r.1, .int .i64 r.2] 28))); have hT2 := Lib.hid (two_new wC (.int .i64 r.1) (.int .i64 r.2) 28); clear hb; obtain ⟨_, ⟨_, t0, t1, t2, t3⟩, _, ⟨_, k0, k1, f0, f1⟩⟩ := hM.out) | (go_at_call 8; (with_reducible refine (turns_any _).mono ?_); rintro e wT ⟨rfl, hb⟩; have hM := Lib.hid (hM.out.to hb); have hT1 := Lib.hid (two_to hT1.out hb); have hT2 := Lib.hid (two_to hT2.out hb); clear hb; obtain ⟨_, ⟨_, t0, t1, t2, t3⟩, _, ⟨_, k0, k1, f0, f1⟩⟩ := hM.out; obtain ⟨_, l0, l1, _, _⟩ := hT1.out; obtain ⟨_, m0, m1, _, _⟩ := hT2.out))
      all_goals
        go_ret
        exact ⟨rfl, hM.out.below⟩
  case pos =>
    obtain ⟨hv, hz⟩ := mf_val h0
    rw [if_neg (by simp [h0]), if_neg (by simp [hv.init])] at hck
    rw [hz] at HNF
    rw [← hck] at HSP
    clear h0 hck hr hv hz
    go_enter Try.func4, Try.ntmps4
    go_wp2_with (first | (go_at_call 7; (with_reducible refine HNF.out.mono ?_); rintro e wF ⟨rfl, hb⟩; have hM := Lib.hid (wm_new (HB0.out.trans (hb.mono HB0.out.size)) (HBX.out.to hb HBX.out.lt) 0 0); clear hb; obtain ⟨_, ⟨_, t0, t1, t2, t3⟩, _, ⟨_, k0, k1, f0, f1⟩⟩ := hM.out) | (go_at_call 18; (with_reducible refine (HSP.out _ hM.out.below).mono ?_); rintro e w4 ⟨rfl, hb⟩; have hM := Lib.hid (hM.out.to hb); clear hb; obtain ⟨_, ⟨_, t0, t1, t2, t3⟩, _, ⟨_, k0, k1, f0, f1⟩⟩ := hM.out))
    have hM := Lib.hid (hM.out.set r.1 r.2)
    clear t0 t1 t2 t3 k0 k1 f0 f1
    generalize wF.heap.size = g at *
    go_loopw [6, 7] (fun v i wr => v = .int .i64 0 ∧ i = .int .i64 0 ∧ WM w wr x g r.1 r.2) (fun _ _ _ => 0)
    case atStart => exact ⟨rfl, rfl, hM.out⟩
    case round =>
      clear hM
      obtain ⟨rfl, rfl, hm⟩ := hrel
      have hM := Lib.hid hm
      clear hm
      obtain ⟨_, ⟨_, t0, t1, t2, t3⟩, _, ⟨_, k0, k1, f0, f1⟩⟩ := hM.out
      go_wp2_with (first | (go_at_call 19; (with_reducible refine (HNS.out _ hM.out.below).mono ?_); rintro e wS ⟨rfl, hb⟩; have hM := Lib.hid ((hM.out.to hb).to (al_b wS (.cells #[.int .i64 r.1, .int .i64 r.2] 28))); have hT1 := Lib.hid (two_new wS (.int .i64 r.1) (.int .i64 r.2) 28); clear hb; obtain ⟨_, ⟨_, t0, t1, t2, t3⟩, _, ⟨_, k0, k1, f0, f1⟩⟩ := hM.out) | (go_at_call 20; (with_reducible refine (HNC.out _ hM.out.below).mono ?_); rintro e wC ⟨rfl, hb⟩; have hM := Lib.hid ((hM.out.to hb).to (al_b wC (.cells #[.int .i64 r.1, .int .i64 r.2] 28))); have hT1 := Lib.hid (two_to (two_to hT1.out hb) (al_b wC (.cells #[.int .i64 r.1, .int .i64 r.2] 28))); have hT2 := Lib.hid (two_new wC (.int .i64 r.1) (.int .i64 r.2) 28); clear hb; obtain ⟨_, ⟨_, t0, t1, t2, t3⟩, _, ⟨_, k0, k1, f0, f1⟩⟩ := hM.out) | (go_at_call 8; (with_reducible refine (turns_any _).mono ?_); rintro e wT ⟨rfl, hb⟩; have hM := Lib.hid (hM.out.to hb); have hT1 := Lib.hid (two_to hT1.out hb); have hT2 := Lib.hid (two_to hT2.out hb); clear hb; obtain ⟨_, ⟨_, t0, t1, t2, t3⟩, _, ⟨_, k0, k1, f0, f1⟩⟩ := hM.out; obtain ⟨_, l0, l1, _, _⟩ := hT1.out; obtain ⟨_, m0, m1, _, _⟩ := hT2.out))
      all_goals
        go_ret
        exact ⟨rfl, hM.out.below⟩
set_option maxHeartbeats 8000000 in
theorem mp_good (x : MT) (A : Option Addr) (c : Nat) (plan : List Int) (w : World) (hX : MTIn w w.heap.size x) (hP : Lst w w.heap.size A c plan) (hr : (ckM x x.init plan).1 = 0) :
    Calls Try.prog 4 #[.agg #[.slice x.az x.sizes.length x.cz, .slice x.ai x.init.length x.ci, .slice x.ag x.goal.length x.cg, .slice x.ao x.ops.length x.co], .slice A plan.length c] w fun e w' => e = .returned (.bool true) ∧ Below w.heap.size w w' := by
  have HX0 := Lib.hid (fun (W : World) (h : Below w.heap.size w W) => hX.to h h.size)
  have HP0 := Lib.hid (fun (W : World) (h : Below w.heap.size w W) => hP.to h h.size)
  have HB0 := Lib.hid (al_b w (.cells #[.slice x.az x.sizes.length x.cz, .slice x.ai x.init.length x.ci, .slice x.ag x.goal.length x.cg, .slice x.ao x.ops.length x.co] 26))
  have HBX := Lib.hid (mbox_new w x 26)
  have HNF := Lib.hid (multiFault_any x _ (HX0.out _ HB0.out))
  have HNS := Lib.hid (fun (W : World) (h : Below w.heap.size w W) => msolve_any x A c plan W (HX0.out W h) (HP0.out W h))
  have HNC := Lib.hid (fun (W : World) (h : Below w.heap.size w W) => mcost_any x A c plan W (HX0.out W h) (HP0.out W h))
  have e1 : slB x plan = msol x plan := by unfold slB; rw [if_pos hr]
  have e2 : coN x plan = mcost x.ops plan plan.length := by unfold coN; rw [if_pos hr]
  obtain ⟨hv, hm, hp, hpl, hz⟩ := ck_ok hr
  have hmo := hv.m
  have HSP := Lib.hid (fun (W : World) (h : Below w.heap.size w W) => stepsFault_any x.ops.length (by unfold maxLen; omega) A c plan W (HP0.out W h))
  have hsp : spF x.ops.length plan = (0, 0) := by unfold spF; rw [if_neg (by omega), if_pos hp]
  have hmz : mfF x = (0, 0) := by
    refine (mf_val ?_).2
    unfold ckM at hr
    by_cases h : (mfF x).1 = 0
    · exact h
    · rw [if_pos h] at hr; exact hr
  have HMV := Lib.hid (fun (W : World) (h : Below w.heap.size w W) => msolves_any x hv A c plan hp W (HX0.out W h) (HP0.out W h))
  have HPB := Lib.hid (fun k (hk : k < plan.length) => planB_at hp hk)
  have HCB := Lib.hid (mcost_le hv hp)
  rw [e1, hz] at HNS
  rw [e2, hz] at HNC
  rw [hmz] at HNF
  rw [hsp] at HSP
  clear hX hP e1 e2 hv hm hp hz hr hsp hmz
  generalize msol x plan = bb at *
  go_enter Try.func4, Try.ntmps4
  go_wp2_with (first | (go_at_call 7; (with_reducible refine HNF.out.mono ?_); rintro e wF ⟨rfl, hb⟩; have hM := Lib.hid (wm_new (HB0.out.trans (hb.mono HB0.out.size)) (HBX.out.to hb HBX.out.lt) 0 0); clear hb; obtain ⟨_, ⟨_, t0, t1, t2, t3⟩, _, ⟨_, k0, k1, f0, f1⟩⟩ := hM.out) | (go_at_call 18; (with_reducible refine (HSP.out _ hM.out.below).mono ?_); rintro e w4 ⟨rfl, hb⟩; have hM := Lib.hid (hM.out.to hb); clear hb; obtain ⟨_, ⟨_, t0, t1, t2, t3⟩, _, ⟨_, k0, k1, f0, f1⟩⟩ := hM.out))
  have hM := Lib.hid (hM.out.set 0 0)
  clear t0 t1 t2 t3 k0 k1 f0 f1
  generalize wF.heap.size = g at *
  go_loopw [6, 7] (fun v i wr => ∃ k : Nat, k ≤ plan.length ∧ i = .int .i64 k ∧ v = .int .i64 (mcost x.ops plan k) ∧ WM w wr x g 0 0) (fun _ i _ => plan.length - (intOf i).toNat)
  case atStart => exact ⟨0, by omega, rfl, rfl, hM.out⟩
  case round =>
    clear hM
    obtain ⟨k, hk, rfl, rfl, hm⟩ := hrel
    have hM := Lib.hid hm
    clear hm
    obtain ⟨_, ⟨_, t0, t1, t2, t3⟩, _, ⟨_, k0, k1, f0, f1⟩⟩ := hM.out
    by_cases hlt : k < plan.length
    case pos =>
      obtain ⟨b, o, rfl, hbl, hc0⟩ := (HP0.out _ hM.out.below).nums.at_ hlt
      obtain ⟨g0, g1⟩ := HPB.out k hlt
      obtain ⟨m, hm⟩ := Int.eq_ofNat_of_zero_le g0
      have hst : mcost x.ops plan (k + 1) = mcost x.ops plan k + (mop x.ops m).cost := by simp only [mcost]; rw [hm]; rfl
      have hcb := HCB.out (k + 1) (by omega)
      rw [hst] at hcb
      have HS := Lib.hid hst
      rw [hm] at g1 hc0
      have hmo2 : m < x.ops.length := by omega
      clear hm g0 hst
      obtain ⟨b2, p, a1, a2, c1, c2, hao, hbl2, ⟨q0, q1, q2⟩, _, _⟩ := (HX0.out _ hM.out.below).ops.at_ hmo2
      have HAO := Lib.hid hao
      rw [hao] at t3
      have hwp : IntKind.i64.wrap (mcost x.ops plan k + (mop x.ops m).cost) = mcost x.ops plan k + (mop x.ops m).cost := IntWalk.i64_in _ (by omega)
      clear hao hcb
      go_wp2
      go_quiet (fail)
      go_wp2
      go_roundw
      case rel => exact ⟨k + 1, by omega, by go_num, by rw [HS.out], hM.out.to (dr_b _ _)⟩
      case measure => simp [intOf]; omega
    case neg =>
      obtain rfl : k = plan.length := by omega
      have hge : ¬ ((plan.length : Int) < plan.length) := by omega
      cases bb
      · go_wp2_with (first | (go_at_call 19; (with_reducible refine (HNS.out _ hM.out.below).mono ?_); rintro e wS ⟨rfl, hb⟩; have hM := Lib.hid ((hM.out.to hb).to (al_b wS (.cells #[.int .i64 0, .int .i64 0] 28))); have hT1 := Lib.hid (two_new wS (.int .i64 0) (.int .i64 0) 28); clear hb; obtain ⟨_, ⟨_, t0, t1, t2, t3⟩, _, ⟨_, k0, k1, f0, f1⟩⟩ := hM.out) | (go_at_call 20; (with_reducible refine (HNC.out _ hM.out.below).mono ?_); rintro e wC ⟨rfl, hb⟩; have hM := Lib.hid ((hM.out.to hb).to (al_b wC (.cells #[.int .i64 0, .int .i64 0] 28))); have hT1 := Lib.hid (two_to (two_to hT1.out hb) (al_b wC (.cells #[.int .i64 0, .int .i64 0] 28))); have hT2 := Lib.hid (two_new wC (.int .i64 0) (.int .i64 0) 28); clear hb; obtain ⟨_, ⟨_, t0, t1, t2, t3⟩, _, ⟨_, k0, k1, f0, f1⟩⟩ := hM.out) | (go_at_call 8; (with_reducible refine (turns_any _).mono ?_); rintro e wT ⟨rfl, hb⟩; have hM := Lib.hid (hM.out.to hb); have hT1 := Lib.hid (two_to hT1.out hb); have hT2 := Lib.hid (two_to hT2.out hb); clear hb; obtain ⟨_, ⟨_, t0, t1, t2, t3⟩, _, ⟨_, k0, k1, f0, f1⟩⟩ := hM.out; obtain ⟨_, l0, l1, _, _⟩ := hT1.out; obtain ⟨_, m0, m1, _, _⟩ := hT2.out) | (go_at_call 21; (with_reducible refine (HMV.out _ hM.out.below).mono ?_); rintro e wV ⟨rfl, hb⟩; have hM := Lib.hid (hM.out.to hb); clear hb))
        go_ret
        exact ⟨rfl, hM.out.below⟩
      · go_wp2_with (first | (go_at_call 19; (with_reducible refine (HNS.out _ hM.out.below).mono ?_); rintro e wS ⟨rfl, hb⟩; have hM := Lib.hid ((hM.out.to hb).to (al_b wS (.cells #[.int .i64 0, .int .i64 0] 28))); have hT1 := Lib.hid (two_new wS (.int .i64 0) (.int .i64 0) 28); clear hb; obtain ⟨_, ⟨_, t0, t1, t2, t3⟩, _, ⟨_, k0, k1, f0, f1⟩⟩ := hM.out) | (go_at_call 20; (with_reducible refine (HNC.out _ hM.out.below).mono ?_); rintro e wC ⟨rfl, hb⟩; have hM := Lib.hid ((hM.out.to hb).to (al_b wC (.cells #[.int .i64 0, .int .i64 0] 28))); have hT1 := Lib.hid (two_to (two_to hT1.out hb) (al_b wC (.cells #[.int .i64 0, .int .i64 0] 28))); have hT2 := Lib.hid (two_new wC (.int .i64 0) (.int .i64 0) 28); clear hb; obtain ⟨_, ⟨_, t0, t1, t2, t3⟩, _, ⟨_, k0, k1, f0, f1⟩⟩ := hM.out) | (go_at_call 8; (with_reducible refine (turns_any _).mono ?_); rintro e wT ⟨rfl, hb⟩; have hM := Lib.hid (hM.out.to hb); have hT1 := Lib.hid (two_to hT1.out hb); have hT2 := Lib.hid (two_to hT2.out hb); clear hb; obtain ⟨_, ⟨_, t0, t1, t2, t3⟩, _, ⟨_, k0, k1, f0, f1⟩⟩ := hM.out; obtain ⟨_, l0, l1, _, _⟩ := hT1.out; obtain ⟨_, m0, m1, _, _⟩ := hT2.out) | (go_at_call 21; (with_reducible refine (HMV.out _ hM.out.below).mono ?_); rintro e wV ⟨rfl, hb⟩; have hM := Lib.hid (hM.out.to hb); clear hb))
        go_ret
        exact ⟨rfl, hM.out.below⟩
theorem mpspec_any (x : MT) (A : Option Addr) (c : Nat) (plan : List Int) (w : World) (hX : MTIn w w.heap.size x) (hP : Lst w w.heap.size A c plan) :
    Calls Try.prog 4 #[.agg #[.slice x.az x.sizes.length x.cz, .slice x.ai x.init.length x.ci, .slice x.ag x.goal.length x.cg, .slice x.ao x.ops.length x.co], .slice A plan.length c] w fun e w' => e = .returned (.bool true) ∧ Below w.heap.size w w' := by
  by_cases h : (ckM x x.init plan).1 = 0
  · exact mp_good x A c plan w hX hP h
  · exact mp_bad x A c plan w hX hP h
end Go.Proofs.Ythlafcmabeiagaa
