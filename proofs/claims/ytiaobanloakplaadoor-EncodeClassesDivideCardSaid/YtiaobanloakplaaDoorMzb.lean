/- areAssignments. -/
import Derived.Test.YtiaobanloakplaaDoorMB
namespace Go.Proofs.YtiaobanloakplaaDoor
open Go.RowKit
set_option linter.unusedSimpArgs false
set_option linter.unusedVariables false
set_option maxRecDepth 100000

def lstV (l : List Asg) (k : Nat) : Int := if k = 0 then 0 else (asg l (k - 1)).v + 1
set_option maxHeartbeats 4000000 in
theorem areAssign_any (A A2 : Option Addr) (c c2 : Nat) (S : List Int) (l : List Asg) (w : World) (hS : Lst w w.heap.size A c S) (hL : AsgL w w.heap.size A2 c2 l) :
    Calls Tryd.prog 57 #[.slice A S.length c, .slice A2 l.length c2] w fun e w' => e = .returned (.bool (asB S l)) ∧ Below w.heap.size w w' := by
  have hln := hL.len
  have hls := hS.len
  unfold maxLen at hln hls
  have HL := Lib.hid (fun (W : World) (h : Below w.heap.size w W) => hL.to h h.size)
  have HS := Lib.hid (fun (W : World) (h : Below w.heap.size w W) => hS.to h h.size)
  clear hL hS
  go_enter Tryd.func57, Tryd.ntmps57
  go_wp2
  go_loopw [5, 10] (fun y i wr => ∃ (k : Nat), k ≤ l.length ∧ i = .int .i64 k ∧ y = .int .i64 (lstV l k) ∧ (∀ j, j < k → as1 S l j = true) ∧ Below w.heap.size w wr) (fun _ i _ => l.length - (intOf i).toNat)
  case atStart => exact ⟨0, by omega, rfl, rfl, by omega, Below.refl _ _⟩
  case round =>
    obtain ⟨k, hk, rfl, rfl, hj, hb⟩ := hrel
    have HJ := Lib.hid hj
    have HB := Lib.hid hb
    clear hj hb
    by_cases hlt : k < l.length
    case neg =>
      have hge : ¬ ((k : Int) < l.length) := by omega
      have HG := Lib.hid (as_good (S := S) (l := l) (fun j hj => HJ.out j (by omega)))
      go_wp2
      go_ret
      exact ⟨ret_val (by rw [HG.out]; rfl), HB.out⟩
    obtain ⟨b, o, rfl, _, ⟨q0, q1⟩⟩ := (HL.out _ HB.out).at_ hlt
    have hs1 : as1 S l k = (inB (asg l k).v 0 ((S.length : Int) - 1) && inB (asg l k).x 0 (ix S (vr l k) - 1) && !as2 l k) := rfl
    have hL0 : 0 ≤ lstV l k ∧ ((asg l k).v < lstV l k → as1 S l k = false) ∧ (lstV l k ≤ (asg l k).v → as2 l k = false) := by
      unfold lstV
      by_cases hk0 : k = 0
      · rw [if_pos hk0]
        refine ⟨by omega, fun h => ?_, fun _ => ?_⟩
        · rw [hs1, inB_no (fun h2 => by omega)]; rfl
        · unfold as2; exact decide_eq_false (fun h => by omega)
      · rw [if_neg hk0]
        have h1 := HJ.out (k - 1) (by omega)
        unfold as1 as0 at h1
        rw [Bool.and_eq_true, Bool.and_eq_true, inB_iff] at h1
        refine ⟨by have := h1.1.1.1; omega, fun h => ?_, fun h => ?_⟩
        · rw [hs1, show as2 l k = true from decide_eq_true ⟨by omega, by omega⟩]; simp
        · unfold as2; exact decide_eq_false (fun h2 => by omega)
    have hst : lstV l (k + 1) = (asg l k).v + 1 := by unfold lstV; rw [if_neg (by omega), Nat.add_sub_cancel]
    generalize lstV l k = L at *
    have hal := al_b wr (.cells #[.int .i64 (asg l k).v, .int .i64 (asg l k).x] 73)
    have HB2 := Lib.hid (HB.out.trans (hal.mono HB.out.size))
    clear hal
    by_cases h1 : (asg l k).v < L
    · have HF := Lib.hid (as_bad hlt (hL0.2.1 h1))
      have hd : decide ((asg l k).v < L) = true := decide_eq_true h1
      clear hs1 hL0 hst
      go_wp2
      go_quiet (fail)
      go_wp2
      go_ret
      exact ⟨ret_val (by rw [HF.out]; rfl), belowN HB2.out _⟩
    have hd : decide ((asg l k).v < L) = false := decide_eq_false h1
    have ha2 := hL0.2.2 (by omega)
    have hv0 : 0 ≤ (asg l k).v := by have := hL0.1; omega
    rw [ha2] at hs1
    clear hL0 ha2
    by_cases h2 : (S.length : Int) ≤ (asg l k).v
    · have HF := Lib.hid (as_bad hlt (show as1 S l k = false by rw [hs1, inB_no (fun h => by omega)]; rfl))
      have hd2 : decide ((S.length : Int) ≤ (asg l k).v) = true := decide_eq_true h2
      clear hs1 hst
      go_wp2
      go_quiet (fail)
      go_wp2
      go_ret
      exact ⟨ret_val (by rw [HF.out]; rfl), belowN HB2.out _⟩
    have hd2 : decide ((S.length : Int) ≤ (asg l k).v) = false := decide_eq_false h2
    rw [inB_iff.2 (show 0 ≤ (asg l k).v ∧ (asg l k).v ≤ (S.length : Int) - 1 by omega)] at hs1
    have hv : (asg l k).v = ((vr l k : Nat) : Int) := by unfold vr; omega
    have hlt2 : vr l k < S.length := by omega
    obtain ⟨b2, o2, rfl, _, hc2⟩ := (HS.out _ HB.out).nums.at_ hlt2
    have hwv : IntKind.i64.wrap ((asg l k).v + 1) = (asg l k).v + 1 := IntWalk.i64_in _ (by omega)
    have HST := Lib.hid hst
    clear hst
    generalize asg l k = a at *
    obtain ⟨av, ax⟩ := a
    simp only at hv q0 q1 hs1 h1 hd h2 hd2 hv0 hwv
    subst hv
    by_cases h3 : ax < 0
    · have HF := Lib.hid (as_bad hlt (show as1 S l k = false by rw [hs1, inB_no (x := ax) (fun h => by omega)]; rfl))
      have hd3 : decide (ax < 0) = true := decide_eq_true h3
      clear hs1
      go_wp2
      go_quiet (fail)
      go_wp2
      go_ret
      exact ⟨ret_val (by rw [HF.out]; rfl), belowN HB2.out _⟩
    have hd3 : decide (ax < 0) = false := decide_eq_false h3
    by_cases h4 : ix S (vr l k) ≤ ax
    · have HF := Lib.hid (as_bad hlt (show as1 S l k = false by rw [hs1, inB_no (x := ax) (fun h => by omega)]; rfl))
      have hd4 : decide (ix S (vr l k) ≤ ax) = true := decide_eq_true h4
      clear hs1
      go_wp2
      go_quiet (fail)
      go_wp2
      go_ret
      exact ⟨ret_val (by rw [HF.out]; rfl), belowN HB2.out _⟩
    have hd4 : decide (ix S (vr l k) ≤ ax) = false := decide_eq_false h4
    have HI := Lib.hid (show as1 S l k = true by rw [hs1, inB_iff.2 (show 0 ≤ ax ∧ ax ≤ ix S (vr l k) - 1 by omega)]; rfl)
    clear hs1
    go_wp2
    go_quiet (fail)
    go_wp2
    go_roundw
    case rel => exact ⟨k + 1, by omega, by go_num, by rw [HST.out], all_step HJ.out HI.out, belowN HB2.out _⟩
    case measure => simp [intOf]; omega
end Go.Proofs.YtiaobanloakplaaDoor
