/- MultiState, Assigns and MultiHolds of the reference. -/
import Derived.Test.YthlafcmabeiagaaMul
namespace Go.Proofs.Ythlafcmabeiagaa
open Go.RowKit
set_option linter.unusedSimpArgs false
set_option linter.unusedVariables false
set_option maxRecDepth 100000


theorem in_q (x a b : Int) (w : World) : Calls Try.prog 15 #[.int .i64 x, .int .i64 a, .int .i64 b] w fun e w' => e = .returned (.bool (inB x a b)) ∧ w' = w := (in_any x a b w).mono fun _ _ h => ⟨h.1, h.2.symm⟩
theorem st_bad {S s : List Int} {k : Nat} (hk : k < s.length) (h : st1 S s k = false) : msB S s = false := by unfold msB; rw [allB_bad hk h]; simp
theorem st_good {S s : List Int} (e : s.length = S.length) (h : ∀ k, k < s.length → st1 S s k = true) : msB S s = true := by unfold msB; rw [allB_iff.2 h, decide_eq_true e]; rfl
set_option maxHeartbeats 1000000 in
theorem mstate_any (x : MT) (hz : SzOk x.sizes) (A : Option Addr) (c : Nat) (s : List Int) (w : World) (hS : Lst w w.heap.size x.az x.cz x.sizes) (hL : Lst w w.heap.size A c s) :
    Calls Try.prog 10 #[.agg #[.slice x.az x.sizes.length x.cz, .slice x.ai x.init.length x.ci, .slice x.ag x.goal.length x.cg, .slice x.ao x.ops.length x.co], .slice A s.length c] w fun e w' => e = .returned (.bool (msB x.sizes s)) ∧ Below w.heap.size w w' := by
  have hln := hL.len
  have hls := hS.len
  unfold maxLen at hln hls
  have HX0 := Lib.hid (bxM_new w x 26)
  have HB := Lib.hid HX0.out.below
  have HL := Lib.hid (fun (W : World) (h : Below w.heap.size w W) => hL.to h h.size)
  have HS := Lib.hid (fun (W : World) (h : Below w.heap.size w W) => hS.to h h.size)
  clear hL hS
  by_cases e : s.length = x.sizes.length
  case neg =>
    have hne : ((s.length : Int) == (x.sizes.length : Int)) = false := by rw [beq_len, decide_eq_false e]
    have hne2 : ((s.length : Int) != (x.sizes.length : Int)) = true := by simp; omega
    have H := Lib.hid (show msB x.sizes s = false by unfold msB; rw [decide_eq_false e]; rfl)
    clear e
    go_enter Try.func10, Try.ntmps10
    go_wp2
    go_ret
    exact ⟨ret_val (by rw [H.out]; rfl), HB.out⟩
  have hne : ((s.length : Int) == (x.sizes.length : Int)) = true := by rw [beq_len, decide_eq_true e]
  have hne2 : ((s.length : Int) != (x.sizes.length : Int)) = false := by simp; omega
  have HE := Lib.hid e
  clear e
  go_enter Try.func10, Try.ntmps10
  go_wp2
  go_loopw [5] (fun i wr => ∃ k : Nat, k ≤ s.length ∧ i = .int .i64 k ∧ (∀ j, j < k → st1 x.sizes s j = true) ∧ BxM w wr x) (fun i _ => s.length - (intOf i).toNat)
  case atStart => exact ⟨0, by omega, rfl, by omega, HX0.out⟩
  case round =>
    obtain ⟨k, hk, rfl, hj, hb⟩ := hrel
    have HJ := Lib.hid hj
    have HX := Lib.hid hb
    clear hj hb
    obtain ⟨_, ⟨_, t0, t1, t2, t3⟩⟩ := HX.out
    by_cases hlt : k < s.length
    · obtain ⟨b, o, rfl, _, hc⟩ := (HL.out _ HX.out.below).nums.at_ hlt
      have hlt2 : k < x.sizes.length := by have := HE.out; omega
      obtain ⟨b2, o2, hz2, _, hc2⟩ := (HS.out _ HX.out.below).nums.at_ hlt2
      have hr := hz.r k hlt2
      have hw : IntKind.i64.wrap (ix x.sizes k - 1) = ix x.sizes k - 1 := IntWalk.i64_in _ (by omega)
      have hs1 : st1 x.sizes s k = inB (ix s k) 0 (ix x.sizes k - 1) := rfl
      clear hr
      rw [hz2] at t0
      have HZ2 := Lib.hid hz2
      clear hz2
      cases hi : inB (ix s k) 0 (ix x.sizes k - 1)
      · rw [hi] at hs1
        have HB2 := Lib.hid (st_bad hlt hs1)
        clear hs1
        go_wp2
        go_quiet ((go_at_call 15; exact Calls.quiet_of_same (in_q _ _ _ _)))
        go_wp2
        go_ret
        exact ⟨ret_val (by rw [HB2.out]; rfl), (HX.out.to (dr_b _ _)).below⟩
      · rw [hi] at hs1
        have HI := Lib.hid hs1
        clear hs1
        go_wp2
        go_quiet ((go_at_call 15; exact Calls.quiet_of_same (in_q _ _ _ _)))
        go_wp2
        go_roundw
        case rel => exact ⟨k + 1, by omega, by go_num, all_step HJ.out HI.out, HX.out.to (dr_b _ _)⟩
        case measure => simp [intOf]; omega
    · have hge : ¬ ((k : Int) < s.length) := by omega
      have HG := Lib.hid (st_good HE.out (fun j hj => HJ.out j (by omega)))
      go_wp2
      go_ret
      exact ⟨ret_val (by rw [HG.out]; rfl), HX.out.below⟩

theorem as1_of {S : List Int} {l : List Asg} {k : Nat} {a b : Bool} (h : as0 S l k = a) (h2 : as2 l k = b) : as1 S l k = (a && !b) := by unfold as1; rw [h, h2]
theorem as_bad {S : List Int} {l : List Asg} {k : Nat} (hk : k < l.length) (h : as1 S l k = false) : asB S l = false := allB_bad hk h
theorem as_good {S : List Int} {l : List Asg} (h : ∀ k, k < l.length → as1 S l k = true) : asB S l = true := allB_iff.2 h
set_option maxHeartbeats 2000000 in
theorem assigns_any (x : MT) (hz : SzOk x.sizes) (A : Option Addr) (c : Nat) (l : List Asg) (w : World) (hS : Lst w w.heap.size x.az x.cz x.sizes) (hL : AsgL w w.heap.size A c l) :
    Calls Try.prog 29 #[.agg #[.slice x.az x.sizes.length x.cz, .slice x.ai x.init.length x.ci, .slice x.ag x.goal.length x.cg, .slice x.ao x.ops.length x.co], .slice A l.length c] w fun e w' => e = .returned (.bool (asB x.sizes l)) ∧ Below w.heap.size w w' := by
  have hln := hL.len
  have hls := hS.len
  unfold maxLen at hln hls
  have HX0 := Lib.hid (bxM_new w x 26)
  have HB := Lib.hid HX0.out.below
  have HL := Lib.hid (fun (W : World) (h : Below w.heap.size w W) => hL.to h h.size)
  have HS := Lib.hid (fun (W : World) (h : Below w.heap.size w W) => hS.to h h.size)
  clear hL hS
  have hwn : IntKind.i64.wrap ((x.sizes.length : Int) - 1) = (x.sizes.length : Int) - 1 := IntWalk.i64_in _ (by omega)
  go_enter Try.func29, Try.ntmps29
  go_wp2
  go_loopw [5] (fun i wr => ∃ k : Nat, k ≤ l.length ∧ i = .int .i64 k ∧ (∀ j, j < k → as1 x.sizes l j = true) ∧ BxM w wr x) (fun i _ => l.length - (intOf i).toNat)
  case atStart => exact ⟨0, by omega, rfl, by omega, HX0.out⟩
  case round =>
    obtain ⟨k, hk, rfl, hj, hb⟩ := hrel
    have HJ := Lib.hid hj
    have HX := Lib.hid hb
    clear hj hb
    obtain ⟨_, ⟨_, t0, t1, t2, t3⟩⟩ := HX.out
    by_cases hlt : k < l.length
    case neg =>
      have hge : ¬ ((k : Int) < l.length) := by omega
      have HG := Lib.hid (as_good (S := x.sizes) (l := l) (fun j hj => HJ.out j (by omega)))
      go_wp2
      go_ret
      exact ⟨ret_val (by rw [HG.out]; rfl), HX.out.below⟩
    obtain ⟨b, o, rfl, _, ⟨q0, q1⟩, hprev⟩ := (HL.out _ HX.out.below).at2 hlt
    have HP := Lib.hid hprev
    clear hprev
    have hs0 : as0 x.sizes l k = (inB (asg l k).v 0 ((x.sizes.length : Int) - 1) && inB (asg l k).x 0 (ix x.sizes (vr l k) - 1)) := rfl
    have hw1 : decide ((0 : Int) < (k : Int)) = decide (0 < k) := by simp
    cases h1 : inB (asg l k).v 0 ((x.sizes.length : Int) - 1)
    · rw [h1] at hs0
      have HB2 := Lib.hid (as_bad hlt (show as1 x.sizes l k = false by unfold as1; rw [hs0]; rfl))
      clear hs0 hw1
      go_wp2
      go_quiet ((go_at_call 15; exact Calls.quiet_of_same (in_q _ _ _ _)))
      go_wp2
      go_ret
      exact ⟨ret_val (by rw [HB2.out]; rfl), (HX.out.to (dr_b _ _)).below⟩
    rw [h1] at hs0
    have hi1 := inB_iff.1 h1
    have hv : (asg l k).v = ((vr l k : Nat) : Int) := by unfold vr; omega
    have hlt2 : vr l k < x.sizes.length := by omega
    obtain ⟨b2, o2, hz2, _, hc2⟩ := (HS.out _ HX.out.below).nums.at_ hlt2
    have hr := hz.r _ hlt2
    have hw : IntKind.i64.wrap (ix x.sizes (vr l k) - 1) = ix x.sizes (vr l k) - 1 := IntWalk.i64_in _ (by omega)
    have HV := Lib.hid hv
    clear hr hi1
    rw [hv] at q0 h1
    rw [hz2] at t0
    have HZ2 := Lib.hid hz2
    clear hz2
    cases h2 : inB (asg l k).x 0 (ix x.sizes (vr l k) - 1)
    · rw [h2] at hs0
      have HB2 := Lib.hid (as_bad hlt (show as1 x.sizes l k = false by unfold as1; rw [hs0]; rfl))
      clear hs0 hw1 hv
      go_wp2
      go_quiet ((go_at_call 15; exact Calls.quiet_of_same (in_q _ _ _ _)))
      go_wp2
      go_ret
      exact ⟨ret_val (by rw [HB2.out]; rfl), (HX.out.to (dr_b _ _)).below⟩
    rw [h2] at hs0
    have hs0 : as0 x.sizes l k = true := hs0
    by_cases h0 : k = 0
    case pos =>
      have HI := Lib.hid (show as1 x.sizes l k = true by unfold as1 as2; rw [hs0, decide_eq_false (by omega)]; rfl)
      have hm0 : decide (0 < k) = false := by simp; omega
      have hm1 : ¬ (0 < k) := by omega
      clear hs0 hw1 hv h0
      have hm2 : decide ((0 : Int) < (k : Int)) = false := by simp; omega
      go_wp2
      go_quiet ((go_at_call 15; exact Calls.quiet_of_same (in_q _ _ _ _)))
      go_wp2
      go_roundw
      case rel => exact ⟨k + 1, by omega, by go_num, all_step HJ.out HI.out, HX.out.to (dr_b _ _)⟩
      case measure => simp [intOf]; omega
    have hm1 : 0 < k := by omega
    have hm0 : decide (0 < k) = true := by simp; omega
    have hm2 : decide ((0 : Int) < (k : Int)) = true := by simp; omega
    have hwm : IntKind.i64.wrap ((k : Int) - 1) = ((k - 1 : Nat) : Int) := by rw [IntWalk.i64_in _ (by omega)]; omega
    have hlt3 : k - 1 < l.length := by omega
    obtain ⟨p0, _⟩ := HP.out hm1
    have hs2 : as2 l k = decide ((asg l k).v ≤ (asg l (k - 1)).v) := by unfold as2; simp [hm1]
    rw [HV.out] at hs2
    cases h3 : decide ((((vr l k : Nat) : Int)) ≤ (asg l (k - 1)).v)
    · rw [h3] at hs2
      have HI := Lib.hid (show as1 x.sizes l k = true by unfold as1; rw [hs0, hs2]; rfl)
      clear hs0 hw1 hv h0 hs2
      go_wp2
      go_quiet ((go_at_call 15; exact Calls.quiet_of_same (in_q _ _ _ _)))
      go_wp2
      go_roundw
      case rel => exact ⟨k + 1, by omega, by go_num, all_step HJ.out HI.out, HX.out.to (dr_b _ _)⟩
      case measure => simp [intOf]; omega
    · rw [h3] at hs2
      have HB2 := Lib.hid (as_bad hlt (show as1 x.sizes l k = false by unfold as1; rw [hs0, hs2]; rfl))
      clear hs0 hw1 hv h0 hs2
      go_wp2
      go_quiet ((go_at_call 15; exact Calls.quiet_of_same (in_q _ _ _ _)))
      go_wp2
      go_ret
      exact ⟨ret_val (by rw [HB2.out]; rfl), (HX.out.to (dr_b _ _)).below⟩

theorem hold_bad {s : List Int} {l : List Asg} {k : Nat} (hk : k < l.length) (h : h1B s l k = false) : holdB s l = false := allB_bad hk h
theorem hold_good {s : List Int} {l : List Asg} (h : ∀ k, k < l.length → h1B s l k = true) : holdB s l = true := allB_iff.2 h
set_option maxHeartbeats 1000000 in
theorem mholds_any (S : List Int) (A A2 : Option Addr) (c c2 : Nat) (s : List Int) (l : List Asg) (hl : AsOk S l) (hs : s.length = S.length) (w : World) (hS : Lst w w.heap.size A c s) (hL : AsgL w w.heap.size A2 c2 l) :
    Calls Try.prog 12 #[.slice A s.length c, .slice A2 l.length c2] w fun e w' => e = .returned (.bool (holdB s l)) ∧ ∃ m, w' = w.drewN m := by
  have hln := hL.len
  have hls := hS.len
  unfold maxLen at hln hls
  have HL := Lib.hid (fun (W : World) (h : Below w.heap.size w W) => hL.to h h.size)
  have HS := Lib.hid (fun (W : World) (h : Below w.heap.size w W) => hS.to h h.size)
  have HE := Lib.hid hs
  clear hL hS hs
  go_enter Try.func12, Try.ntmps12
  go_wp2
  go_loopw [5] (fun i wr => ∃ k : Nat, k ≤ l.length ∧ i = .int .i64 k ∧ (∀ j, j < k → h1B s l j = true) ∧ ∃ m, wr = w.drewN m) (fun i _ => l.length - (intOf i).toNat)
  case atStart => exact ⟨0, by omega, rfl, by omega, 0, rfl⟩
  case round =>
    obtain ⟨k, hk, rfl, hj, hm⟩ := hrel
    have HJ := Lib.hid hj
    have HM := Lib.hid hm
    have HB := Lib.hid (show Below w.heap.size w wr by obtain ⟨m, rfl⟩ := hm; exact dr_b _ _)
    clear hj hm
    by_cases hlt : k < l.length
    · obtain ⟨b, o, rfl, _, ⟨q0, q1⟩⟩ := (HL.out _ HB.out).at_ hlt
      have hv := hl.v k hlt
      have hlt2 : vr l k < s.length := by have := hl.lt k hlt; have := HE.out; omega
      obtain ⟨b2, o2, rfl, _, hc2⟩ := (HS.out _ HB.out).nums.at_ hlt2
      rw [hv] at q0
      clear hv
      by_cases hi : ix s (vr l k) = (asg l k).x
      · have hd : (ix s (vr l k) != (asg l k).x) = false := by simpa using hi
        have hd2 : (ix s (vr l k) == (asg l k).x) = true := by simpa using hi
        have HI := Lib.hid (show h1B s l k = true from decide_eq_true hi)
        clear hi
        go_wp2
        go_quiet (fail)
        go_wp2
        go_roundw
        case rel => exact ⟨k + 1, by omega, by go_num, all_step HJ.out HI.out, drew_more HM.out _⟩
        case measure => simp [intOf]; omega
      · have hd : (ix s (vr l k) != (asg l k).x) = true := by simpa using hi
        have hd2 : (ix s (vr l k) == (asg l k).x) = false := by simpa using hi
        have HB2 := Lib.hid (hold_bad hlt (show h1B s l k = false from decide_eq_false hi))
        clear hi
        go_wp2
        go_quiet (fail)
        go_wp2
        go_ret
        exact ⟨ret_val (by rw [HB2.out]; rfl), drew_more HM.out _⟩
    · have hge : ¬ ((k : Int) < l.length) := by omega
      have HG := Lib.hid (hold_good (s := s) (l := l) (fun j hj => HJ.out j (by omega)))
      go_wp2
      go_ret
      exact ⟨ret_val (by rw [HG.out]; rfl), HM.out⟩
end Go.Proofs.Ythlafcmabeiagaa
