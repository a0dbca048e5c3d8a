/- slices.Compare over lists of int. -/
import Derived.Test.YtenmegkokclolaaDoorKlf
namespace Go.Proofs.YtenmegkokclolaaDoor
open Go.RowKit
set_option linter.unusedSimpArgs false
set_option linter.unusedVariables false
set_option maxRecDepth 100000

def cmpI (x y : Int) : Int := if x < y then -1 else if y < x then 1 else 0
def cmpL : List Int → List Int → Int
  | [], [] => 0
  | [], _ :: _ => -1
  | _ :: _, [] => 1
  | x :: xs, y :: ys => if x < y then -1 else if y < x then 1 else cmpL xs ys
theorem ix_drop {l : List Int} {k : Nat} (h : k < l.length) : l.drop k = ix l k :: l.drop (k + 1) := by
  rw [List.drop_eq_getElem_cons h]
  simp [ix, List.getD, List.getElem?_eq_getElem h]
theorem cmpL_step {a b : List Int} {k : Nat} (ha : k < a.length) (hb : k < b.length) (h : cmpL a b = cmpL (a.drop k) (b.drop k)) (he : cmpI (ix a k) (ix b k) = 0) : cmpL a b = cmpL (a.drop (k + 1)) (b.drop (k + 1)) := by
  rw [h, ix_drop ha, ix_drop hb]
  unfold cmpI at he
  split at he
  · cases he
  · rename_i h1
    split at he
    · cases he
    · rename_i h2
      rw [cmpL, if_neg h1, if_neg h2]
theorem cmpL_here {a b : List Int} {k : Nat} (ha : k < a.length) (hb : k < b.length) (h : cmpL a b = cmpL (a.drop k) (b.drop k)) (he : cmpI (ix a k) (ix b k) ≠ 0) : cmpL a b = cmpI (ix a k) (ix b k) := by
  rw [h, ix_drop ha, ix_drop hb]
  unfold cmpI at he ⊢
  rw [cmpL]
  split
  · rfl
  · rename_i h1
    split
    · rfl
    · rename_i h2
      rw [if_neg h1, if_neg h2] at he
      exact absurd rfl he
theorem cmpL_long {a b : List Int} {k : Nat} (ha : k < a.length) (hb : b.length ≤ k) (h : cmpL a b = cmpL (a.drop k) (b.drop k)) : cmpL a b = 1 := by
  rw [h, ix_drop ha, List.drop_eq_nil_of_le hb]
  rfl
theorem cmpL_short {a b : List Int} (hb : a.length < b.length) (h : cmpL a b = cmpL (a.drop a.length) (b.drop a.length)) : cmpL a b = -1 := by
  rw [h, ix_drop hb, List.drop_eq_nil_of_le (Nat.le_refl _)]
  rfl
theorem cmpL_same {a b : List Int} (hb : b.length = a.length) (h : cmpL a b = cmpL (a.drop a.length) (b.drop a.length)) : cmpL a b = 0 := by
  rw [h, List.drop_eq_nil_of_le (Nat.le_refl _), List.drop_eq_nil_of_le (by omega)]
  rfl

theorem isNaN_any (x : Int) (w : World) : Calls Tryd.prog 76 #[.int .i64 x] w fun e w' => e = .returned (.bool false) ∧ w = w' := by
  go_enter Tryd.func76, Tryd.ntmps76
  go_wp2
  go_ret
  exact ⟨by simp, rfl⟩
set_option maxHeartbeats 1000000 in
theorem compareI_any (x y : Int) (w : World) : Calls Tryd.prog 53 #[.int .i64 x, .int .i64 y] w fun e w' => e = .returned (.int .i64 (cmpI x y)) ∧ w = w' := by
  have HX := isNaN_any x w
  have HY := isNaN_any y w
  by_cases h1 : x < y
  · have H := Lib.hid (show cmpI x y = -1 by simp [cmpI, h1])
    have d1 : decide (x < y) = true := decide_eq_true h1
    go_enter Tryd.func53, Tryd.ntmps53
    go_wp2_with (first | (go_at_call 76; (with_reducible refine HX.mono ?_); rintro e w' ⟨rfl, rfl⟩) | (go_at_call 76; (with_reducible refine HY.mono ?_); rintro e w' ⟨rfl, rfl⟩))
    go_ret
    exact ⟨by rw [H.out]; rfl, rfl⟩
  have d1 : decide (x < y) = false := decide_eq_false h1
  by_cases h2 : y < x
  · have H := Lib.hid (show cmpI x y = 1 by simp [cmpI, h1, h2])
    have d2 : decide (y < x) = true := decide_eq_true h2
    go_enter Tryd.func53, Tryd.ntmps53
    go_wp2_with (first | (go_at_call 76; (with_reducible refine HX.mono ?_); rintro e w' ⟨rfl, rfl⟩) | (go_at_call 76; (with_reducible refine HY.mono ?_); rintro e w' ⟨rfl, rfl⟩))
    go_ret
    exact ⟨by rw [H.out]; rfl, rfl⟩
  · have H := Lib.hid (show cmpI x y = 0 by simp [cmpI, h1, h2])
    have d2 : decide (y < x) = false := decide_eq_false h2
    go_enter Tryd.func53, Tryd.ntmps53
    go_wp2_with (first | (go_at_call 76; (with_reducible refine HX.mono ?_); rintro e w' ⟨rfl, rfl⟩) | (go_at_call 76; (with_reducible refine HY.mono ?_); rintro e w' ⟨rfl, rfl⟩))
    go_ret
    exact ⟨by rw [H.out]; rfl, rfl⟩

set_option maxHeartbeats 2000000 in
theorem compare_any (A B : Option Addr) (c d : Nat) (a b : List Int) (w : World) (hA : Nums w w.heap.size A a) (hB : Nums w w.heap.size B b) (hla : a.length ≤ maxLen) (hlb : b.length ≤ maxLen) :
    Calls Tryd.prog 33 #[.slice A a.length c, .slice B b.length d] w fun e w' => e = .returned (.int .i64 (cmpL a b)) ∧ w = w' := by
  unfold maxLen at hla hlb
  have HA := Lib.hid hA
  have HB := Lib.hid hB
  clear hA hB
  go_enter Tryd.func33, Tryd.ntmps33
  go_wp2
  go_loop [11] (fun i => ∃ k : Nat, k ≤ a.length ∧ k ≤ b.length ∧ i = .int .i64 k ∧ cmpL a b = cmpL (a.drop k) (b.drop k)) (fun i => a.length - (intOf i).toNat)
  case atStart => exact ⟨0, by omega, by omega, rfl, rfl⟩
  case round =>
    obtain ⟨k, hk, hkb, rfl, hj⟩ := hrel
    have HJ := Lib.hid hj
    clear hj
    by_cases hlt : k < a.length
    case neg =>
      obtain rfl : k = a.length := by omega
      have hge : ¬ ((a.length : Int) < a.length) := by omega
      by_cases hs : a.length < b.length
      · have H := Lib.hid (cmpL_short hs HJ.out)
        go_wp2
        go_ret
        exact ⟨by rw [H.out]; rfl, rfl⟩
      · have H := Lib.hid (cmpL_same (by omega) HJ.out)
        go_wp2
        go_ret
        exact ⟨by rw [H.out]; rfl, rfl⟩
    obtain ⟨b1, o1, rfl, _, hc1⟩ := HA.out.at_ hlt
    by_cases hl2 : k < b.length
    case neg =>
      have H := Lib.hid (cmpL_long hlt (by omega) HJ.out)
      go_wp2
      go_ret
      exact ⟨by rw [H.out]; rfl, rfl⟩
    obtain ⟨b2, o2, rfl, _, hc2⟩ := HB.out.at_ hl2
    have HC := Lib.hid (compareI_any (ix a k) (ix b k) w)
    by_cases he : cmpI (ix a k) (ix b k) = 0
    · have H := Lib.hid (cmpL_step hlt hl2 HJ.out he)
      rw [he] at HC
      clear he
      go_wp2_with (go_at_call 53; (with_reducible refine HC.out.mono ?_); rintro e w' ⟨rfl, rfl⟩)
      go_round
      case rel => exact ⟨k + 1, by omega, by omega, by go_num, H.out⟩
      case measure => simp [intOf]; omega
    · have H := Lib.hid (cmpL_here hlt hl2 HJ.out he)
      have hne : (cmpI (ix a k) (ix b k) != 0) = true := by simpa using he
      have hne2 : (cmpI (ix a k) (ix b k) == 0) = false := by simpa using he
      clear he
      generalize cmpI (ix a k) (ix b k) = q at *
      go_wp2_with (go_at_call 53; (with_reducible refine HC.out.mono ?_); rintro e w' ⟨rfl, rfl⟩)
      go_ret
      exact ⟨by rw [H.out]; rfl, rfl⟩

/-- The order of lists is total and strict. -/
theorem cmpL_refl : ∀ a : List Int, cmpL a a = 0
  | [] => rfl
  | x :: xs => by unfold cmpL; rw [if_neg (by omega), if_neg (by omega)]; exact cmpL_refl xs
theorem cmpL_zero : ∀ {a b : List Int}, cmpL a b = 0 → a = b
  | [], [], _ => rfl
  | [], _ :: _, h => by cases h
  | _ :: _, [], h => by cases h
  | x :: xs, y :: ys, h => by
    unfold cmpL at h
    split at h
    · cases h
    · split at h
      · cases h
      · have e : x = y := by omega
        rw [e, cmpL_zero h]
theorem cmpL_swap : ∀ a b : List Int, cmpL a b = - cmpL b a
  | [], [] => rfl
  | [], _ :: _ => rfl
  | _ :: _, [] => rfl
  | x :: xs, y :: ys => by
    unfold cmpL
    by_cases h1 : x < y
    · rw [if_pos h1, if_neg (by omega), if_pos h1]
    · by_cases h2 : y < x
      · rw [if_neg h1, if_pos h2, if_pos h2]; rfl
      · rw [if_neg h1, if_neg h2, if_neg h2, if_neg h1]; exact cmpL_swap xs ys
theorem cmpL_trans : ∀ {a b c : List Int}, cmpL a b < 0 → cmpL b c < 0 → cmpL a c < 0
  | [], [], _, h, _ => by simp [cmpL] at h
  | [], _ :: _, [], _, h => by simp [cmpL] at h
  | [], _ :: _, _ :: _, _, _ => by simp [cmpL]
  | _ :: _, [], _, h, _ => by simp [cmpL] at h
  | _ :: _, _ :: _, [], _, h => by simp [cmpL] at h
  | x :: xs, y :: ys, z :: zs, h1, h2 => by
    unfold cmpL at h1 h2 ⊢
    by_cases a1 : x < y
    · by_cases b1 : y < z
      · rw [if_pos (by omega)]; omega
      · rw [if_neg b1] at h2
        by_cases b2 : z < y
        · rw [if_pos b2] at h2; omega
        · rw [if_pos (by omega)]; omega
    · rw [if_neg a1] at h1
      by_cases a2 : y < x
      · rw [if_pos a2] at h1; omega
      · rw [if_neg a2] at h1
        by_cases b1 : y < z
        · rw [if_pos (by omega)]; omega
        · rw [if_neg b1] at h2
          by_cases b2 : z < y
          · rw [if_pos b2] at h2; omega
          · rw [if_neg b2] at h2
            rw [if_neg (by omega), if_neg (by omega)]
            exact cmpL_trans h1 h2
end Go.Proofs.YtenmegkokclolaaDoor
