/- The reference's Lists. -/
import Derived.Test.YtenmegkokclolaaDoorVex
namespace Go.Proofs.YtenmegkokclolaaDoor
open Go.RowKit
set_option linter.unusedSimpArgs false
set_option linter.unusedVariables false
set_option maxRecDepth 100000

def eqLL (a b : List (List Int)) : Bool := decide (a.length = b.length) && (List.range a.length).all (fun k => eqL (rw_ a k) (rw_ b k))
theorem eqLL_len {a b : List (List Int)} (h : a.length ≠ b.length) : eqLL a b = false := by unfold eqLL; rw [decide_eq_false h]; rfl
theorem eqLL_bad {a b : List (List Int)} {k : Nat} (hk : k < a.length) (h : eqL (rw_ a k) (rw_ b k) = false) : eqLL a b = false := by
  unfold eqLL
  rw [Bool.and_eq_false_iff]
  right
  rw [List.all_eq_false]
  exact ⟨k, by simpa using hk, by simp [h]⟩
theorem eqLL_good {a b : List (List Int)} (h : a.length = b.length) (hk : ∀ k, k < a.length → eqL (rw_ a k) (rw_ b k) = true) : eqLL a b = true := by
  unfold eqLL
  rw [decide_eq_true h, Bool.true_and, List.all_eq_true]
  exact fun k h => hk k (by simpa using h)
theorem quiet_addn (w : World) (n m : Nat) : (w.drewN n).drewN m = w.drewN (n + m) := by simp [World.drewN, Nat.add_assoc]
set_option maxHeartbeats 2000000 in
theorem lists_any (A B : Option Addr) (c d : Nat) (a b : List (List Int)) (w : World) (hA : Rws w w.heap.size A a) (hB : Rws w w.heap.size B b) (hla : a.length ≤ maxLen) (hlb : b.length ≤ maxLen) :
    Calls Tryd.prog 14 #[.slice A a.length c, .slice B b.length d] w fun e w' => e = .returned (.bool (eqLL a b)) ∧ Below w.heap.size w w' := by
  unfold maxLen at hla hlb
  have HA := Lib.hid (fun (W : World) (h : Below w.heap.size w W) => hA.to h h.size)
  have HB := Lib.hid (fun (W : World) (h : Below w.heap.size w W) => hB.to h h.size)
  clear hA hB
  by_cases hl : a.length = b.length
  case neg =>
    have H := Lib.hid (eqLL_len hl)
    have d1 : ((a.length : Int) != (b.length : Int)) = true := by simp; omega
    have d2 : ((a.length : Int) == (b.length : Int)) = false := by simp; omega
    go_enter Tryd.func14, Tryd.ntmps14
    go_wp2
    go_ret
    exact ⟨by rw [H.out]; rfl, Below.refl _ _⟩
  have d1 : ((a.length : Int) != (b.length : Int)) = false := by simp; omega
  have d2 : ((a.length : Int) == (b.length : Int)) = true := by simp; omega
  go_enter Tryd.func14, Tryd.ntmps14
  go_wp2
  go_loopw [5] (fun i wr => ∃ k : Nat, k ≤ a.length ∧ i = .int .i64 k ∧ Below w.heap.size w wr ∧ ∀ j, j < k → eqL (rw_ a j) (rw_ b j) = true) (fun i _ => a.length - (intOf i).toNat)
  case atStart => exact ⟨0, by omega, rfl, Below.refl _ _, by omega⟩
  case round =>
    obtain ⟨k, hk, rfl, hbw, hj⟩ := hrel
    have HJ := Lib.hid hj
    have HW := Lib.hid hbw
    clear hj hbw
    by_cases hlt : k < a.length
    case neg =>
      have hge : ¬ ((k : Int) < a.length) := by omega
      have H := Lib.hid (eqLL_good hl (fun j hj => HJ.out j (by omega)))
      go_wp2
      go_ret
      exact ⟨by rw [H.out]; rfl, HW.out⟩
    have hltb : k < b.length := by omega
    obtain ⟨b1, o1, ak, ck, rfl, hb1, hc1, hl1⟩ := (HA.out _ HW.out).at_ hlt
    obtain ⟨b2, o2, bk, dk, rfl, hb2, hc2, hl2⟩ := (HB.out _ HW.out).at_ hltb
    have HI := Lib.hid (fun n : Nat => intsq_any ak bk ck dk (rw_ a k) (rw_ b k) (wr.drewN n) (hl1.to (belowN (Below.refl wr.heap.size wr) n) (belowN (Below.refl wr.heap.size wr) n).size).nums (hl2.to (belowN (Below.refl wr.heap.size wr) n) (belowN (Below.refl wr.heap.size wr) n).size).nums hl1.len hl2.len)
    clear hl1 hl2
    cases he : eqL (rw_ a k) (rw_ b k)
    · rw [he] at HI
      have H := Lib.hid (eqLL_bad hlt he)
      clear he
      go_wp2
      go_quiet (first | (go_at_call 34; (with_reducible refine (HI.out _).mono ?_); rintro e w' ⟨rfl, nn, rfl⟩; exact ⟨rfl, _, quiet_addn _ _ _⟩))
      go_wp2
      go_ret
      exact ⟨by rw [H.out]; rfl, belowN HW.out _⟩
    · rw [he] at HI
      have HE := Lib.hid he
      clear he
      go_wp2
      go_quiet (first | (go_at_call 34; (with_reducible refine (HI.out _).mono ?_); rintro e w' ⟨rfl, nn, rfl⟩; exact ⟨rfl, _, quiet_addn _ _ _⟩))
      go_wp2
      go_roundw
      case rel => exact ⟨k + 1, by omega, by go_num, belowN HW.out _, all_step (p := fun j => eqL (rw_ a j) (rw_ b j) = true) HJ.out HE.out⟩
      case measure => simp [intOf]; omega
end Go.Proofs.YtenmegkokclolaaDoor
