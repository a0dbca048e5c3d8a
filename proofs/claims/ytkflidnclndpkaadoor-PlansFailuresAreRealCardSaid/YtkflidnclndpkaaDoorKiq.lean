/- Ints of the reference only reads. -/
import Derived.Test.YtkflidnclndpkaaDoorKcz
namespace Go.Proofs.YtkflidnclndpkaaDoor
open Go.RowKit
set_option linter.unusedSimpArgs false
set_option linter.unusedVariables false
set_option maxRecDepth 100000

theorem drew_more {w wr : World} (h : ∃ n, wr = w.drewN n) (m : Nat) : ∃ n, wr.drewN m = w.drewN n := by
  obtain ⟨n, rfl⟩ := h
  exact ⟨n + m, by rw [World.drewN_drewN]⟩
set_option maxHeartbeats 1000000 in
theorem intsq_any (A A' : Option Addr) (c c' : Nat) (xs ys : List Int) (w : World) (hX : Nums w w.heap.size A xs) (hY : Nums w w.heap.size A' ys) (hx : xs.length ≤ maxLen) (hy : ys.length ≤ maxLen) :
    Calls Tryd.prog 14 #[.slice A xs.length c, .slice A' ys.length c'] w fun e w' => e = .returned (.bool (eqL xs ys)) ∧ ∃ n, w' = w.drewN n := by
  unfold maxLen at hx hy
  have HX := Lib.hid hX
  have HY := Lib.hid hY
  clear hX hY
  by_cases hl : xs.length = ys.length
  · have HL := Lib.hid hl
    have hb : ((xs.length : Int) != ys.length) = false := by simp [hl]
    have hb2 : ((ys.length : Int) != ys.length) = false := by simp
    clear hl
    go_enter Tryd.func14, Tryd.ntmps14
    go_wp2
    go_loopw [5] (fun i wr => ∃ k : Nat, k ≤ xs.length ∧ i = .int .i64 k ∧ (∃ n, wr = w.drewN n) ∧ ∀ j, j < k → ix xs j = ix ys j) (fun i _ => xs.length - (intOf i).toNat)
    case atStart => exact ⟨0, by omega, rfl, ⟨0, rfl⟩, by omega⟩
    case round =>
      obtain ⟨k, hk, rfl, hdn, hj⟩ := hrel
      have HJ := Lib.hid hj
      clear hj
      have HD := Lib.hid hdn
      have HB := Lib.hid (show Below w.heap.size w wr by obtain ⟨n, e⟩ := hdn; rw [e]; exact belowN (Below.refl _ _) n)
      clear hdn
      by_cases hlt : k < xs.length
      · obtain ⟨b1, o1, rfl, _, hs1⟩ := (HX.out.to HB.out (Nat.le_refl _)).at_ hlt
        have hlt2 : k < ys.length := by have := HL.out; omega
        obtain ⟨b2, o2, rfl, _, hs2⟩ := (HY.out.to HB.out (Nat.le_refl _)).at_ hlt2
        have hi2 : (k : Int) < ys.length := by omega
        by_cases he : ix xs k = ix ys k
        · have HQ := Lib.hid he
          have hq : (ix xs k != ix ys k) = false := by simpa using he
          clear he
          go_wp2
          go_quiet (fail)
          go_wp2
          go_roundw
          case rel => exact ⟨k + 1, by omega, by go_num, drew_more HD.out _, ix_step HJ.out HQ.out⟩
          case measure => simp [intOf]; omega
        · have HQ := Lib.hid he
          have hq : (ix xs k != ix ys k) = true := by simpa using he
          clear he
          go_wp2
          go_quiet (fail)
          go_wp2
          go_ret
          exact ⟨ret_bool (eqL_bad HQ.out).symm, drew_more HD.out _⟩
      · have hge : ¬ ((k : Int) < xs.length) := by omega
        go_wp2
        go_ret
        exact ⟨ret_bool (eqL_good HL.out (fun j hj => HJ.out j (by omega))).symm, HD.out⟩
  · have HL := Lib.hid (eqL_len hl)
    have hb : ((xs.length : Int) != ys.length) = true := by simp; omega
    clear hl
    go_enter Tryd.func14, Tryd.ntmps14
    go_wp2
    go_ret
    exact ⟨ret_bool HL.out.symm, 0, rfl⟩

theorem eqL_self (l : List Int) : eqL l l = true := eqL_good rfl (fun _ _ => rfl)
theorem quiet_ints {A A' : Option Addr} {c c' : Nat} {xs ys : List Int} {U : World} (n : Nat) (hX : Nums U U.heap.size A xs) (hY : Nums U U.heap.size A' ys) (hx : xs.length ≤ maxLen) (hy : ys.length ≤ maxLen) :
    Calls Tryd.prog 14 #[.slice A xs.length c, .slice A' ys.length c'] (U.drewN n) fun e w'' => e = .returned (.bool (eqL xs ys)) ∧ ∃ m, w'' = U.drewN m :=
  Calls.quiet_of (intsq_any A A' c c' xs ys (U.drewN n) hX hY hx hy)
end Go.Proofs.YtkflidnclndpkaaDoor
