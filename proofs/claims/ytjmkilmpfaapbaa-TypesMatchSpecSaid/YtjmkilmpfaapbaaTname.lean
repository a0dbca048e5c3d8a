/- Contracts of isName (package types) and Name (the reference). -/
import Derived.Test.YtjmkilmpfaapbaaTleaf
namespace Go.Proofs.Ytjmkilmpfaapbaa
open Go.RowKit
set_option linter.unusedSimpArgs false
set_option linter.unusedVariables false
set_option maxRecDepth 100000

def byt (s : ByteArray) (k : Nat) : Int := ((s.data.toList.getD k 0).toNat : Int)
theorem byt_bd (s : ByteArray) (k : Nat) : 0 ≤ byt s k ∧ byt s k ≤ 255 := by
  unfold byt
  have := (s.data.toList.getD k 0).toNat_lt
  omega
def okB (k : Nat) (c : Int) : Bool := letB c || (decide (k ≠ 0) && (digB c || hypB c))
def nameB (s : ByteArray) : Bool := decide (1 ≤ s.size) && decide (s.size ≤ 12) && (List.range s.size).all (fun k => okB k (byt s k))

theorem byt_eq (s : ByteArray) (k : Nat) (h : k < s.size) : ((s[k].toNat : Nat) : Int) = byt s k := by
  unfold byt
  simp [List.getD, ByteArray.getElem_eq_getElem_data]
  rw [Array.getElem?_eq_getElem]
  rfl

theorem name_bad (s : ByteArray) (k : Nat) (h : k < s.size) (hb : okB k (byt s k) = false) : nameB s = false := by
  unfold nameB
  rw [Bool.and_eq_false_iff]
  right
  rw [List.all_eq_false]
  exact ⟨k, by simpa using h, by simp [hb]⟩

theorem name_good (s : ByteArray) (h : ∀ j, j < s.size → okB j (byt s j) = true) : nameB s = (decide (1 ≤ s.size) && decide (s.size ≤ 12)) := by
  unfold nameB
  have : (List.range s.size).all (fun k => okB k (byt s k)) = true := by
    rw [List.all_eq_true]
    intro k hk
    exact h k (by simpa using hk)
  rw [this, Bool.and_true]

theorem ok_step {s : ByteArray} {k : Nat} (h : ∀ j, j < k → okB j (byt s j) = true) (hk : okB k (byt s k) = true) : ∀ j, j < k + 1 → okB j (byt s j) = true := by
  intro j hj
  by_cases e : j = k
  · subst e; exact hk
  · exact h j (by omega)
theorem ret_bool {a b : Bool} (h : a = b) : Ending.returned (.bool a) = Ending.returned (.bool b) := by rw [h]

set_option maxHeartbeats 1000000 in
theorem name_any (s : ByteArray) (hs : s.size ≤ maxLen) (w : World) :
    Calls Try.prog 24 #[.string s] w fun e w' => e = .returned (.bool (nameB s)) ∧ w = w' := by
  unfold maxLen at hs
  go_enter Try.func24, Try.ntmps24
  go_wp2
  go_loop [3] (fun i => ∃ k : Nat, k ≤ s.size ∧ i = .int .i64 k ∧ ∀ j, j < k → okB j (byt s j) = true) (fun i => s.size - (intOf i).toNat)
  case atStart => exact ⟨0, by omega, rfl, by omega⟩
  case round =>
    obtain ⟨k, hk, rfl, hj⟩ := hrel
    have HJ := Lib.hid hj
    clear hj
    by_cases hlt : k < s.size
    · have hb := byt_eq s k hlt
      obtain ⟨hb0, hb1⟩ := byt_bd s k
      have hbw : wrap64 (byt s k) = byt s k := by unfold wrap64; omega
      cases hl : inB (byt s k) 97 122
      · by_cases hk0 : k = 0
        · subst hk0
          have hbad := Lib.hid (name_bad s 0 hlt (by simp [okB, letB, hl]))
          go_wp2_with (go_at_call 25; refine (in_any _ _ _ _).mono ?_; rintro e w' ⟨rfl, rfl⟩)
          go_ret
          exact ⟨ret_bool hbad.out.symm, rfl⟩
        · have hz : ((k : Int) == 0) = false := by simpa using hk0
          cases hd : inB (byt s k) 48 57
          · by_cases h45 : byt s k = 45
            · have hg := Lib.hid (show okB k (byt s k) = true by simp [okB, hypB, hk0, h45])
              have h45b : (byt s k == 45) = true := by simpa using h45
              have h45n : (byt s k != 45) = false := by simpa using h45
              clear h45
              go_wp2_with (go_at_call 25; refine (in_any _ _ _ _).mono ?_; rintro e w' ⟨rfl, rfl⟩)
              go_round
              case rel => exact ⟨k + 1, by omega, by go_num, ok_step HJ.out hg.out⟩
              case measure => simp [intOf]; omega
            · have hg := Lib.hid (show okB k (byt s k) = false by simp [okB, letB, digB, hypB, hk0, h45, hl, hd])
              have h45b : (byt s k == 45) = false := by simpa using h45
              have h45n : (byt s k != 45) = true := by simpa using h45
              clear h45
              go_wp2_with (go_at_call 25; refine (in_any _ _ _ _).mono ?_; rintro e w' ⟨rfl, rfl⟩)
              go_ret
              exact ⟨ret_bool (name_bad s k hlt hg.out).symm, rfl⟩
          · have hg := Lib.hid (show okB k (byt s k) = true by simp [okB, digB, hk0, hd])
            go_wp2_with (go_at_call 25; refine (in_any _ _ _ _).mono ?_; rintro e w' ⟨rfl, rfl⟩)
            go_round
            case rel => exact ⟨k + 1, by omega, by go_num, ok_step HJ.out hg.out⟩
            case measure => simp [intOf]; omega
      · have hg := Lib.hid (show okB k (byt s k) = true by simp [okB, letB, hl])
        go_wp2_with (go_at_call 25; refine (in_any _ _ _ _).mono ?_; rintro e w' ⟨rfl, rfl⟩)
        go_round
        case rel => exact ⟨k + 1, by omega, by go_num, ok_step HJ.out hg.out⟩
        case measure => simp [intOf]; omega
    · have hge : ¬ ((k : Int) < s.size) := by omega
      go_wp2_with (go_at_call 25; refine (in_any _ _ _ _).mono ?_; rintro e w' ⟨rfl, rfl⟩)
      go_ret
      exact ⟨ret_bool (by rw [name_good s (fun j hj => HJ.out j (by omega))]; rw [Bool.eq_iff_iff]; simp [inB]; omega), rfl⟩


theorem toList_nil {s : ByteArray} (h : s.size = 0) : s.toList = [] := by
  have : s.toList.length = 0 := by rw [ByteArray.toList_eq]; exact h
  exact List.eq_nil_of_length_eq_zero this
theorem toList_not {s : ByteArray} (h : 0 < s.size) : s.toList.isEmpty = false := by
  have : 0 < s.toList.length := by rw [ByteArray.toList_eq]; exact h
  cases e : s.toList with
  | nil => rw [e] at this; simp at this
  | cons _ _ => rfl
theorem name_none {s : ByteArray} (h : s.size = 0) : nameB s = false := by simp [nameB, h]
theorem name_long {s : ByteArray} (h : 12 < s.size) : nameB s = false := by
  simp [nameB]; omega

set_option maxHeartbeats 1000000 in
theorem isName_any (s : ByteArray) (hs : s.size ≤ maxLen) (w : World) :
    Calls Try.prog 33 #[.string s] w fun e w' => e = .returned (.bool (nameB s)) ∧ w = w' := by
  unfold maxLen at hs
  rcases Nat.eq_zero_or_pos s.size with h0 | h0
  · have hl := toList_nil h0
    have hbad := Lib.hid (name_none h0)
    clear h0
    go_enter Try.func33, Try.ntmps33
    go_wp2
    go_ret
    exact ⟨ret_bool hbad.out.symm, rfl⟩
  have hl := toList_not h0
  rcases Nat.lt_or_ge 12 s.size with h12 | h12
  · have hbad := Lib.hid (name_long h12)
    go_enter Try.func33, Try.ntmps33
    go_wp2
    go_ret
    exact ⟨ret_bool hbad.out.symm, rfl⟩
  have hb := byt_eq s 0 h0
  cases hl0 : letB (byt s 0)
  · have hbad := Lib.hid (name_bad s 0 h0 (by simp [okB, hl0]))
    go_enter Try.func33, Try.ntmps33
    go_wp2_with (go_at_call 38; refine (letter_any _ _).mono ?_; rintro e w' ⟨rfl, rfl⟩)
    go_ret
    exact ⟨ret_bool hbad.out.symm, rfl⟩
  go_enter Try.func33, Try.ntmps33
  go_wp2_with (go_at_call 38; refine (letter_any _ _).mono ?_; rintro e w' ⟨rfl, rfl⟩)
  clear hb
  go_loop [20] (fun i => ∃ k : Nat, k ≤ s.size ∧ i = .int .i64 k ∧ ∀ j, j < k → okB j (byt s j) = true) (fun i => s.size - (intOf i).toNat)
  case atStart => exact ⟨0, by omega, rfl, by omega⟩
  case round =>
    obtain ⟨k, hk, rfl, hj⟩ := hrel
    have HJ := Lib.hid hj
    clear hj
    have H0 := Lib.hid hl0
    clear hl0
    by_cases hlt : k < s.size
    · have hb := byt_eq s k hlt
      obtain ⟨hb0, hb1⟩ := byt_bd s k
      cases hl : letB (byt s k)
      · have hk0 : k ≠ 0 := by
          rintro rfl
          rw [H0.out] at hl
          cases hl
        by_cases hd : 48 ≤ byt s k ∧ byt s k ≤ 57
        · obtain ⟨hd1, hd2⟩ := hd
          have hg := Lib.hid (show okB k (byt s k) = true by simp [okB, digB, inB, hk0, hd1, hd2])
          go_wp2_with (go_at_call 38; refine (letter_any _ _).mono ?_; rintro e w' ⟨rfl, rfl⟩)
          go_round
          case rel => exact ⟨k + 1, by omega, by go_num, ok_step HJ.out hg.out⟩
          case measure => simp [intOf]; omega
        · by_cases h45 : byt s k = 45
          · have hg := Lib.hid (show okB k (byt s k) = true by simp [okB, hypB, hk0, h45])
            have h45n : (byt s k != 45) = false := by simpa using h45
            clear hl
            have hl : letB 45 = false := by decide
            clear hd
            go_wp2_with (go_at_call 38; refine (letter_any _ _).mono ?_; rintro e w' ⟨rfl, rfl⟩)
            go_round
            case rel => exact ⟨k + 1, by omega, by go_num, ok_step HJ.out hg.out⟩
            case measure => simp [intOf]; omega
          · have hg := Lib.hid (show okB k (byt s k) = false by simp [okB, digB, hypB, inB, hl, h45]; omega)
            have h45n : (byt s k != 45) = true := by simpa using h45
            clear h45
            rcases Int.lt_or_le (byt s k) 48 with hd1 | hd1
            · clear hd
              go_wp2_with (go_at_call 38; refine (letter_any _ _).mono ?_; rintro e w' ⟨rfl, rfl⟩)
              go_ret
              exact ⟨ret_bool (name_bad s k hlt hg.out).symm, rfl⟩
            · have hd2 : 57 < byt s k := by omega
              have hd3 : (!decide (byt s k ≤ 57)) = true := by simp; omega
              clear hd
              go_wp2_with (go_at_call 38; refine (letter_any _ _).mono ?_; rintro e w' ⟨rfl, rfl⟩)
              go_ret
              exact ⟨ret_bool (name_bad s k hlt hg.out).symm, rfl⟩
      · have hg := Lib.hid (show okB k (byt s k) = true by simp [okB, hl])
        go_wp2_with (go_at_call 38; refine (letter_any _ _).mono ?_; rintro e w' ⟨rfl, rfl⟩)
        go_round
        case rel => exact ⟨k + 1, by omega, by go_num, ok_step HJ.out hg.out⟩
        case measure => simp [intOf]; omega
    · have hge : ¬ ((k : Int) < s.size) := by omega
      go_wp2
      go_ret
      exact ⟨ret_bool (by rw [name_good s (fun j hj => HJ.out j (by omega))]; simp; omega), rfl⟩

end Go.Proofs.Ytjmkilmpfaapbaa
