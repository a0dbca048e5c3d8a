/- Package encode: valuesOf. -/
import Derived.Test.YtiaobanloakplaaDoorEpu
namespace Go.Proofs.YtiaobanloakplaaDoor
open Go.RowKit
set_option linter.unusedSimpArgs false
set_option linter.unusedVariables false
set_option maxRecDepth 100000

def isB (l : List Int) (x : Int) (j : Nat) : Bool := decide (ix l j = x)
theorem isB_any (l : List Int) (x : Int) : (List.range l.length).any (isB l x) = decide (x ∈ l) := by
  rw [Bool.eq_iff_iff, List.any_eq_true, decide_eq_true_eq]
  constructor
  · rintro ⟨k, hk, he⟩
    rw [List.mem_range] at hk
    unfold isB at he
    rw [decide_eq_true_eq] at he
    rw [← he]; exact ix_mem hk
  · intro h
    obtain ⟨k, hk, he⟩ := mem_ix h
    exact ⟨k, List.mem_range.2 hk, by unfold isB; exact decide_eq_true he⟩
set_option maxHeartbeats 1000000 in
theorem indexE_any (A : Option Addr) (c : Nat) (l : List Int) (x : Int) (w : World) (hL : Nums w w.heap.size A l) (hln : l.length ≤ maxLen) :
    Calls Tryd.prog 95 #[.slice A l.length c, .int .i64 x] w fun e w' => e = .returned (.int .i64 (idxB (isB l x) l.length)) ∧ w = w' := by
  unfold maxLen at hln
  have HL := Lib.hid hL
  clear hL
  go_enter Tryd.func95, Tryd.ntmps95
  go_wp2
  go_loop [8] (fun i => ∃ k : Nat, k ≤ l.length ∧ i = .int .i64 k ∧ ∀ j, j < k → isB l x j = false) (fun i => l.length - (intOf i).toNat)
  case atStart => exact ⟨0, by omega, rfl, by omega⟩
  case round =>
    obtain ⟨k, hk, rfl, hj⟩ := hrel
    have HJ := Lib.hid hj
    clear hj
    by_cases hlt : k < l.length
    · obtain ⟨b, o, rfl, _, hcc⟩ := HL.out.at_ hlt
      by_cases he : ix l k = x
      · have HI := Lib.hid (show isB l x k = true from decide_eq_true he)
        have hq : (x == ix l k) = true := by rw [he]; simp
        clear he
        go_wp2
        go_ret
        exact ⟨ret_int2 (idxB_hit hlt HI.out HJ.out).symm, rfl⟩
      · have HI := Lib.hid (show isB l x k = false from decide_eq_false he)
        have hq : (x == ix l k) = false := by simpa using fun e => he e.symm
        clear he
        go_wp2
        go_round
        case rel => exact ⟨k + 1, by omega, by go_num, all_stepF HJ.out HI.out⟩
        case measure => simp [intOf]; omega
    · have hge : ¬ ((k : Int) < l.length) := by omega
      go_wp2
      go_ret
      exact ⟨ret_int2 (idxB_miss (fun j h => HJ.out j (by omega))).symm, rfl⟩
set_option maxHeartbeats 400000 in
theorem containsE_any (A : Option Addr) (c : Nat) (l : List Int) (x : Int) (w : World) (hL : Nums w w.heap.size A l) (hln : l.length ≤ maxLen) :
    Calls Tryd.prog 90 #[.slice A l.length c, .int .i64 x] w fun e w' => e = .returned (.bool (decide (x ∈ l))) ∧ w = w' := by
  have HR := indexE_any A c l x w hL hln
  have hI := idxB_has (isB l x) l.length
  have HS := Lib.hid (isB_any l x)
  clear hL
  go_enter Tryd.func90, Tryd.ntmps90
  go_wp2_with (go_at_call 95; refine HR.mono ?_; rintro e w' ⟨rfl, rfl⟩)
  go_ret
  exact ⟨ret_val (by first | rfl | (rw [HS.out]; rfl)), rfl⟩

def IntsPost (w : World) (xs : List Int) (e : Ending) (w' : World) : Prop := ∃ v, e = .returned v ∧ w'.ownsRow w.heap.size 3 1 v xs.length (xs.map (Value.int .i64)) ∧ Below w.heap.size w w'
set_option maxHeartbeats 2000000 in
theorem valuesOf_any (A B : Option Addr) (c d : Nat) (cl fs : List Int) (w : World) (hA : Lst w w.heap.size A c cl) (hB : Lst w w.heap.size B d fs) (hc24 : cl.length ≤ 24) :
    Calls Tryd.prog 74 #[.slice A cl.length c, .slice B fs.length d] w (IntsPost w (valL cl fs)) := by
  have HA := Lib.hid (fun (W : World) (h : Below w.heap.size w W) => hA.to h h.size)
  have HB := Lib.hid (fun (W : World) (h : Below w.heap.size w W) => hB.to h h.size)
  clear hA hB
  obtain ⟨i0, hi, hz0, hz1, hz2⟩ := info_parts info_int
  go_enter Tryd.func74, Tryd.ntmps74
  go_wp2
  go_loopw [5, 10] (fun v i wr => ∃ k : Nat, k ≤ cl.length ∧ i = .int .i64 k ∧ Below w.heap.size w wr ∧ wr.ownsRow w.heap.size 3 1 v (facs k (fun i => decide (ix cl i ∈ fs))).length ((facs k (fun i => decide (ix cl i ∈ fs))).map (Value.int .i64))) (fun _ i _ => cl.length - (intOf i).toNat)
  case atStart => exact ⟨0, by omega, rfl, Below.refl _ _, World.ownsRow_nil _ _ _ _⟩
  case round =>
    obtain ⟨k, hk, rfl, hbw, hown⟩ := hrel
    have HW := Lib.hid hbw
    have HO := Lib.hid hown
    clear hbw hown
    by_cases hlt : k < cl.length
    case neg =>
      have hge : ¬ ((k : Int) < cl.length) := by omega
      have H := Lib.hid (show k = cl.length by omega)
      go_wp2
      go_ret
      exact ⟨_, rfl, by have := HO.out; rw [H.out] at this; exact this, HW.out⟩
    have hsz := HW.out.size
    have hlen := facs_len k (fun i => decide (ix cl i ∈ fs))
    obtain ⟨b, o, rfl, hbl, hcell⟩ := (HA.out _ HW.out).nums.at_ hlt
    have HC := Lib.hid (containsE_any B d fs (ix cl k) wr (HB.out _ HW.out).nums (HB.out _ HW.out).len)
    by_cases hm : ix cl k ∈ fs
    · have HQ := Lib.hid (facs_succ_yes (n := k) (f := fun i => decide (ix cl i ∈ fs)) (decide_eq_true hm))
      rw [decide_eq_true hm] at HC
      clear hm
      go_wp2_with (first | (go_at_call 90; (with_reducible refine HC.out.mono ?_); rintro e w' ⟨rfl, rfl⟩) | (at_builtin; refine wpList_append_own_at _ rfl _ _ 22 rfl (w.heap.size) 3 i0 (.int .i64 0) 1 8 Tryd.underlying22 hi hz0 hz1 hz2 rfl (by decide) _ _ _ rfl (HO.out.alloc _) ⟨wr.heap.size, 0, none⟩ 1 1 [.int .i64 k] rfl rfl ?c1 ?c2 ?c3 ?c4 ?c5 ?_))
      case c1 => exact cell_one_new _ _ _
      case c2 => simp [Value.oneCell']
      case c3 => unfold maxLen; omega
      case c4 => omega
      case c5 => simp; omega
      intro v2 w2 hown2 hgrow _ _
      have HW2 := Lib.hid (HW.out.trans (Below.grown (B := w.heap.size) ((Below.refl _ _).alloc hsz _) hgrow (by simp; omega) (fun q hq => (HO.out.lt q hq).1)))
      have HO2 := Lib.hid hown2
      clear hgrow hown2
      go_wp2
      go_roundw
      case rel => exact ⟨k + 1, by omega, by go_num, HW2.out, by rw [HQ.out]; simpa using HO2.out⟩
      case measure => simp [intOf]; omega
    · have HQ := Lib.hid (facs_succ_no (n := k) (f := fun i => decide (ix cl i ∈ fs)) (decide_eq_false hm))
      rw [decide_eq_false hm] at HC
      clear hm
      go_wp2_with (go_at_call 90; (with_reducible refine HC.out.mono ?_); rintro e w' ⟨rfl, rfl⟩)
      go_roundw
      case rel => exact ⟨k + 1, by omega, by go_num, HW.out, by rw [HQ.out]; exact HO.out⟩
      case measure => simp [intOf]; omega
end Go.Proofs.YtiaobanloakplaaDoor
