/- assigned and sets of the law MultiStripsMatchesSpec. -/
import Derived.Test.YthlafcmabeiagaaMl5
namespace Go.Proofs.Ythlafcmabeiagaa
open Go.RowKit
set_option linter.unusedSimpArgs false
set_option linter.unusedVariables false
set_option maxRecDepth 100000

def ag1 (l : List Asg) (v x : Int) (k : Nat) : Bool := decide ((asg l k).v = v) && decide ((asg l k).x = x)
theorem agB_hit {l : List Asg} {v x : Int} {k : Nat} (hk : k < l.length) (h : ag1 l v x k = true) : agB l v x = true := List.any_eq_true.2 ⟨k, List.mem_range.2 hk, h⟩
theorem agB_miss {l : List Asg} {v x : Int} (h : ∀ k, k < l.length → ag1 l v x k = false) : agB l v x = false := by
  cases e : agB l v x
  · rfl
  · obtain ⟨k, hk, h1⟩ := List.any_eq_true.1 e
    have := h k (List.mem_range.1 hk)
    unfold ag1 at this
    rw [this] at h1; cases h1
set_option maxHeartbeats 1000000 in
theorem assigned_any (A : Option Addr) (c : Nat) (l : List Asg) (v x : Int) (w : World) (hL : AsgL w w.heap.size A c l) :
    Calls Try.prog 27 #[.slice A l.length c, .int .i64 v, .int .i64 x] w fun e w' => e = .returned (.bool (agB l v x)) ∧ w = w' := by
  have hln := hL.len
  unfold maxLen at hln
  have HL := Lib.hid hL
  clear hL
  go_enter Try.func27, Try.ntmps27
  go_wp2
  go_loop [7] (fun i => ∃ k : Nat, k ≤ l.length ∧ i = .int .i64 k ∧ ∀ j, j < k → ag1 l v x j = false) (fun i => l.length - (intOf i).toNat)
  case atStart => exact ⟨0, by omega, rfl, by omega⟩
  case round =>
    obtain ⟨k, hk, rfl, hj⟩ := hrel
    have HJ := Lib.hid hj
    clear hj
    by_cases hlt : k < l.length
    · obtain ⟨b, o, rfl, _, ⟨q0, q1⟩⟩ := HL.out.at_ hlt
      have h9 : ag1 l v x k = (decide ((asg l k).v = v) && decide ((asg l k).x = x)) := rfl
      by_cases h1 : (asg l k).v = v
      · by_cases h2 : (asg l k).x = x
        · have H := Lib.hid (agB_hit hlt (by rw [h9, decide_eq_true h1, decide_eq_true h2]; rfl))
          have e1 : ((asg l k).v == v) = true := by simpa using h1
          have e2 : ((asg l k).x == x) = true := by simpa using h2
          clear h9 h1 h2
          go_wp2
          go_ret
          exact ⟨ret_val (by rw [H.out]; rfl), rfl⟩
        · have HI := Lib.hid (show ag1 l v x k = false by rw [h9, decide_eq_false h2]; simp)
          have e1 : ((asg l k).v == v) = true := by simpa using h1
          have e2 : ((asg l k).x == x) = false := by simpa using h2
          clear h9 h1 h2
          go_wp2
          go_round
          case rel => exact ⟨k + 1, by omega, by go_num, all_step HJ.out HI.out⟩
          case measure => simp [intOf]; omega
      · have HI := Lib.hid (show ag1 l v x k = false by rw [h9, decide_eq_false h1]; rfl)
        have e1 : ((asg l k).v == v) = false := by simpa using h1
        clear h9 h1
        go_wp2
        go_round
        case rel => exact ⟨k + 1, by omega, by go_num, all_step HJ.out HI.out⟩
        case measure => simp [intOf]; omega
    · have hge : ¬ ((k : Int) < l.length) := by omega
      have H := Lib.hid (agB_miss (l := l) (v := v) (x := x) (fun j hj => HJ.out j (by omega)))
      go_wp2
      go_ret
      exact ⟨ret_val (by rw [H.out]; rfl), rfl⟩
set_option maxHeartbeats 1000000 in
theorem sets_any (A : Option Addr) (c : Nat) (l : List Asg) (v : Int) (w : World) (hL : AsgL w w.heap.size A c l) :
    Calls Try.prog 28 #[.slice A l.length c, .int .i64 v] w fun e w' => e = .returned (.bool (vsB l v)) ∧ w = w' := by
  have hln := hL.len
  unfold maxLen at hln
  have HL := Lib.hid hL
  clear hL
  go_enter Try.func28, Try.ntmps28
  go_wp2
  go_loop [5] (fun i => ∃ k : Nat, k ≤ l.length ∧ i = .int .i64 k ∧ ∀ j, j < k → (asg l j).v ≠ v) (fun i => l.length - (intOf i).toNat)
  case atStart => exact ⟨0, by omega, rfl, by omega⟩
  case round =>
    obtain ⟨k, hk, rfl, hj⟩ := hrel
    have HJ := Lib.hid hj
    clear hj
    by_cases hlt : k < l.length
    · obtain ⟨b, o, rfl, _, ⟨q0, q1⟩⟩ := HL.out.at_ hlt
      by_cases h1 : (asg l k).v = v
      · have H := Lib.hid (vsB_iff.2 ⟨k, hlt, h1⟩)
        have e1 : ((asg l k).v == v) = true := by simpa using h1
        clear h1
        go_wp2
        go_ret
        exact ⟨ret_val (by rw [H.out]; rfl), rfl⟩
      · have HI := Lib.hid h1
        have e1 : ((asg l k).v == v) = false := by simpa using h1
        clear h1
        go_wp2
        go_round
        case rel => exact ⟨k + 1, by omega, by go_num, all_step (p := fun j => (asg l j).v ≠ v) HJ.out HI.out⟩
        case measure => simp [intOf]; omega
    · have hge : ¬ ((k : Int) < l.length) := by omega
      have H := Lib.hid (show vsB l v = false by
        cases e : vsB l v
        · rfl
        · obtain ⟨j, hj, h⟩ := vsB_iff.1 e
          exact absurd h (HJ.out j (by omega)))
      go_wp2
      go_ret
      exact ⟨ret_val (by rw [H.out]; rfl), rfl⟩
end Go.Proofs.Ythlafcmabeiagaa
