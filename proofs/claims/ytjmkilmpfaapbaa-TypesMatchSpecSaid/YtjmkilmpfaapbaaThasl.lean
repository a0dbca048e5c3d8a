/- Has and Subset of the reference, over lists of numbers. -/
import Derived.Test.YtjmkilmpfaapbaaTints
import Derived.Test.YtjmkilmpfaapbaaThas
namespace Go.Proofs.Ytjmkilmpfaapbaa
open Go.RowKit
set_option linter.unusedSimpArgs false
set_option linter.unusedVariables false
set_option maxRecDepth 100000

theorem memB_hit {xs : List Int} {x : Int} {k : Nat} (hk : k < xs.length) (h : ix xs k = x) : memB xs x = true := by
  unfold memB
  have : ix xs k = xs[k] := by simp [ix, List.getD, hk]
  rw [this] at h
  exact decide_eq_true (h ▸ List.getElem_mem _)
theorem memB_miss {xs : List Int} {x : Int} (h : ∀ j, j < xs.length → ix xs j ≠ x) : memB xs x = false := by
  unfold memB
  refine decide_eq_false (fun hm => ?_)
  obtain ⟨j, hj, e⟩ := List.getElem_of_mem hm
  have := h j hj
  simp [ix, List.getD, hj, e] at this
theorem ne_step {xs : List Int} {x : Int} {k : Nat} (h : ∀ j, j < k → ix xs j ≠ x) (hk : ix xs k ≠ x) : ∀ j, j < k + 1 → ix xs j ≠ x := by
  intro j hj
  by_cases e : j = k
  · subst e; exact hk
  · exact h j (by omega)

set_option maxHeartbeats 1000000 in
theorem hasl_any (A : Option Addr) (c : Nat) (xs : List Int) (x : Int) (w : World) (hX : Nums w w.heap.size A xs) (hx : xs.length ≤ maxLen) :
    Calls Try.prog 29 #[.slice A xs.length c, .int .i64 x] w fun e w' => e = .returned (.bool (memB xs x)) ∧ w = w' := by
  unfold maxLen at hx
  have HX := Lib.hid hX
  clear hX
  go_enter Try.func29, Try.ntmps29
  go_wp2
  go_loop [5] (fun i => ∃ k : Nat, k ≤ xs.length ∧ i = .int .i64 k ∧ ∀ j, j < k → ix xs j ≠ x) (fun i => xs.length - (intOf i).toNat)
  case atStart => exact ⟨0, by omega, rfl, by omega⟩
  case round =>
    obtain ⟨k, hk, rfl, hj⟩ := hrel
    have HJ := Lib.hid hj
    clear hj
    by_cases hlt : k < xs.length
    · obtain ⟨b1, o1, rfl, _, hs1⟩ := HX.out.at_ hlt
      by_cases he : ix xs k = x
      · have HQ := Lib.hid he
        have hq : (ix xs k == x) = true := by simpa using he
        clear he
        go_wp2
        go_ret
        exact ⟨ret_bool (memB_hit hlt HQ.out).symm, rfl⟩
      · have HQ := Lib.hid he
        have hq : (ix xs k == x) = false := by simpa using he
        clear he
        go_wp2
        go_round
        case rel => exact ⟨k + 1, by omega, by go_num, ne_step HJ.out HQ.out⟩
        case measure => simp [intOf]; omega
    · have hge : ¬ ((k : Int) < xs.length) := by omega
      go_wp2
      go_ret
      exact ⟨ret_bool (memB_miss (fun j hj => HJ.out j (by omega))).symm, rfl⟩

def subB (xs ys : List Int) : Bool := xs.all (memB ys)
theorem subB_bad {xs ys : List Int} {k : Nat} (hk : k < xs.length) (h : memB ys (ix xs k) = false) : subB xs ys = false := by
  unfold subB
  rw [List.all_eq_false]
  refine ⟨xs[k], List.getElem_mem _, ?_⟩
  simp only [ix, List.getD, List.getElem?_eq_getElem hk, Option.getD_some] at h
  simp [h]
theorem subB_good {xs ys : List Int} (h : ∀ j, j < xs.length → memB ys (ix xs j) = true) : subB xs ys = true := by
  unfold subB
  rw [List.all_eq_true]
  intro x hx
  obtain ⟨j, hj, rfl⟩ := List.getElem_of_mem hx
  have := h j hj
  simp only [ix, List.getD, List.getElem?_eq_getElem hj, Option.getD_some] at this
  exact this
theorem sub_step {xs ys : List Int} {k : Nat} (h : ∀ j, j < k → memB ys (ix xs j) = true) (hk : memB ys (ix xs k) = true) : ∀ j, j < k + 1 → memB ys (ix xs j) = true := by
  intro j hj
  by_cases e : j = k
  · subst e; exact hk
  · exact h j (by omega)

set_option maxHeartbeats 1000000 in
theorem subset_any (A A' : Option Addr) (c c' : Nat) (xs ys : List Int) (w : World) (hX : Nums w w.heap.size A xs) (hY : Nums w w.heap.size A' ys) (hx : xs.length ≤ maxLen) (hy : ys.length ≤ maxLen) :
    Calls Try.prog 20 #[.slice A xs.length c, .slice A' ys.length c'] w fun e w' => e = .returned (.bool (subB xs ys)) ∧ w = w' := by
  have hcall := fun x => hasl_any A' c' ys x w hY hy
  unfold maxLen at hx
  have HX := Lib.hid hX
  clear hX hY
  go_enter Try.func20, Try.ntmps20
  go_wp2
  go_loop [5] (fun i => ∃ k : Nat, k ≤ xs.length ∧ i = .int .i64 k ∧ ∀ j, j < k → memB ys (ix xs j) = true) (fun i => xs.length - (intOf i).toNat)
  case atStart => exact ⟨0, by omega, rfl, by omega⟩
  case round =>
    obtain ⟨k, hk, rfl, hj⟩ := hrel
    have HJ := Lib.hid hj
    clear hj
    by_cases hlt : k < xs.length
    · obtain ⟨b1, o1, rfl, _, hs1⟩ := HX.out.at_ hlt
      cases he : memB ys (ix xs k)
      · have HQ := Lib.hid he
        go_wp2_with (go_at_call 29; refine (hcall _).mono ?_; rintro e w' ⟨rfl, rfl⟩)
        go_ret
        exact ⟨ret_bool (subB_bad hlt HQ.out).symm, rfl⟩
      · have HQ := Lib.hid he
        go_wp2_with (go_at_call 29; refine (hcall _).mono ?_; rintro e w' ⟨rfl, rfl⟩)
        go_round
        case rel => exact ⟨k + 1, by omega, by go_num, sub_step HJ.out HQ.out⟩
        case measure => simp [intOf]; omega
    · have hge : ¬ ((k : Int) < xs.length) := by omega
      go_wp2
      go_ret
      exact ⟨ret_bool (subB_good (fun j hj => HJ.out j (by omega))).symm, rfl⟩

end Go.Proofs.Ytjmkilmpfaapbaa
