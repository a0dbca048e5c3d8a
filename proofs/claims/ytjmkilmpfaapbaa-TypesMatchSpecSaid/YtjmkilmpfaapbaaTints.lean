/- Ints of the reference: equality of lists of numbers. -/
import Derived.Test.YtjmkilmpfaapbaaTwith
namespace Go.Proofs.Ytjmkilmpfaapbaa
open Go.RowKit
set_option linter.unusedSimpArgs false
set_option linter.unusedVariables false
set_option maxRecDepth 100000

def eqL (xs ys : List Int) : Bool := decide (xs = ys)
theorem eqL_len {xs ys : List Int} (h : xs.length ≠ ys.length) : eqL xs ys = false := by
  unfold eqL
  exact decide_eq_false (fun e => h (by rw [e]))
theorem eqL_bad {xs ys : List Int} {k : Nat} (h : ix xs k ≠ ix ys k) : eqL xs ys = false := by
  unfold eqL
  exact decide_eq_false (fun e => h (by rw [e]))
theorem eqL_good {xs ys : List Int} (hl : xs.length = ys.length) (h : ∀ j, j < xs.length → ix xs j = ix ys j) : eqL xs ys = true := by
  unfold eqL
  refine decide_eq_true (List.ext_getElem hl (fun i h1 h2 => ?_))
  have := h i h1
  simpa [ix, List.getD, h1, h2] using this
theorem ix_step {xs ys : List Int} {k : Nat} (h : ∀ j, j < k → ix xs j = ix ys j) (hk : ix xs k = ix ys k) : ∀ j, j < k + 1 → ix xs j = ix ys j := by
  intro j hj
  by_cases e : j = k
  · subst e; exact hk
  · exact h j (by omega)

set_option maxHeartbeats 1000000 in
theorem ints_any (A A' : Option Addr) (c c' : Nat) (xs ys : List Int) (w : World) (hX : Nums w w.heap.size A xs) (hY : Nums w w.heap.size A' ys) (hx : xs.length ≤ maxLen) (hy : ys.length ≤ maxLen) :
    Calls Try.prog 17 #[.slice A xs.length c, .slice A' ys.length c'] w fun e w' => e = .returned (.bool (eqL xs ys)) ∧ Below w.heap.size w w' := by
  unfold maxLen at hx hy
  have HX := Lib.hid hX
  have HY := Lib.hid hY
  clear hX hY
  by_cases hl : xs.length = ys.length
  · have HL := Lib.hid hl
    have hb : ((xs.length : Int) != ys.length) = false := by simp [hl]
    have hb2 : ((ys.length : Int) != ys.length) = false := by simp
    clear hl
    go_enter Try.func17, Try.ntmps17
    go_wp2
    go_loopw [5] (fun i wr => ∃ k : Nat, k ≤ xs.length ∧ i = .int .i64 k ∧ Below w.heap.size w wr ∧ ∀ j, j < k → ix xs j = ix ys j) (fun i _ => xs.length - (intOf i).toNat)
    case atStart => exact ⟨0, by omega, rfl, Below.refl _ _, by omega⟩
    case round =>
      obtain ⟨k, hk, rfl, hbw, hj⟩ := hrel
      have HJ := Lib.hid hj
      clear hj
      have HB := Lib.hid hbw
      clear hbw
      by_cases hlt : k < xs.length
      · obtain ⟨b1, o1, rfl, _, hs1⟩ := (HX.out.to HB.out (Nat.le_refl _)).at_ hlt
        have hlt2 : k < ys.length := by have := HL.out; omega
        obtain ⟨b2, o2, rfl, _, hs2⟩ := (HY.out.to HB.out (Nat.le_refl _)).at_ hlt2
        have hi2 : (k : Int) < ys.length := by omega
        by_cases he : ix xs k = ix ys k
        · have HQ := Lib.hid he
          have hq : (ix xs k != ix ys k) = false := by simpa using he
          clear he
          go_wp2
          go_quiet (fail)
          go_wp2
          go_roundw
          case rel => exact ⟨k + 1, by omega, by go_num, belowN HB.out _, ix_step HJ.out HQ.out⟩
          case measure => simp [intOf]; omega
        · have HQ := Lib.hid he
          have hq : (ix xs k != ix ys k) = true := by simpa using he
          clear he
          go_wp2
          go_quiet (fail)
          go_wp2
          go_ret
          exact ⟨ret_bool (eqL_bad HQ.out).symm, belowN HB.out _⟩
      · have hge : ¬ ((k : Int) < xs.length) := by omega
        go_wp2
        go_ret
        exact ⟨ret_bool (eqL_good HL.out (fun j hj => HJ.out j (by omega))).symm, HB.out⟩
  · have HL := Lib.hid (eqL_len hl)
    have hb : ((xs.length : Int) != ys.length) = true := by simp; omega
    clear hl
    go_enter Try.func17, Try.ntmps17
    go_wp2
    go_ret
    exact ⟨ret_bool HL.out.symm, Below.refl _ _⟩

end Go.Proofs.Ytjmkilmpfaapbaa
