/- Contracts on symbols: symbolLength, isSymbol, Symbol. -/
import Derived.Test.YtbdollafpjejiaaSleaf
namespace Go.Proofs.Ytbdollafpjejiaa
open Go.RowKit
set_option linter.unusedSimpArgs false
set_option linter.unusedVariables false
set_option maxRecDepth 100000

def bt (s : ByteArray) (k : Nat) : Nat := (s.data.toList.getD k 0).toNat
def sat (s : ByteArray) (k : Nat) : Bool := symB (bt s k)
theorem bt_eq (s : ByteArray) (k : Nat) (h : k < s.size) : s[k].toNat = bt s k := by rw [bget s k h]; rfl
theorem bt_lt (s : ByteArray) (k : Nat) : bt s k < 256 := (s.data.toList.getD k 0).toNat_lt
/-- The number of the symbol bytes that s begins with, from k on. -/
def symEnd (s : ByteArray) : Nat := ((List.range s.size).find? (fun k => !sat s k)).getD s.size
theorem symEnd_le (s : ByteArray) : symEnd s ≤ s.size := by
  unfold symEnd
  cases h : (List.range s.size).find? (fun k => !sat s k) with
  | none => simp
  | some k =>
    have := List.mem_of_find?_eq_some h
    simp at this
    simp; omega
theorem symEnd_hit {s : ByteArray} {k : Nat} (hk : k < s.size) (hj : ∀ j, j < k → sat s j = true) (h : sat s k = false) : symEnd s = k := by
  unfold symEnd
  have : (List.range s.size).find? (fun k => !sat s k) = some k := by
    rw [List.find?_range_eq_some]
    exact ⟨by simp [h], by simpa using hk, fun j hjk => by simp [hj j hjk]⟩
  rw [this]; rfl
theorem symEnd_all {s : ByteArray} (hj : ∀ j, j < s.size → sat s j = true) : symEnd s = s.size := by
  unfold symEnd
  have : (List.range s.size).find? (fun k => !sat s k) = none := by
    rw [List.find?_eq_none]
    intro j h
    simp [hj j (by simpa using h)]
  rw [this]; rfl
theorem sat_step {s : ByteArray} {k : Nat} (h : ∀ j, j < k → sat s j = true) (hk : sat s k = true) : ∀ j, j < k + 1 → sat s j = true := by
  intro j hj
  by_cases e : j = k
  · subst e; exact hk
  · exact h j (by omega)
/-- A string is a symbol. -/
def symbolB (s : ByteArray) : Bool := decide (1 ≤ s.size) && decide (s.size ≤ 12) && (List.range s.size).all (sat s)
theorem symbolB_bad {s : ByteArray} {k : Nat} (hk : k < s.size) (h : sat s k = false) : symbolB s = false := by
  unfold symbolB
  have : (List.range s.size).all (sat s) = false := by
    rw [List.all_eq_false]
    exact ⟨k, by simpa using hk, by simp [h]⟩
  rw [this, Bool.and_false]
theorem symbolB_good {s : ByteArray} (h : ∀ j, j < s.size → sat s j = true) : symbolB s = (decide (1 ≤ s.size) && decide (s.size ≤ 12)) := by
  unfold symbolB
  have : (List.range s.size).all (sat s) = true := by
    rw [List.all_eq_true]
    intro k hk
    exact h k (by simpa using hk)
  rw [this, Bool.and_true]
theorem symbolB_end (s : ByteArray) (h1 : 1 ≤ s.size) (h2 : s.size ≤ 12) : decide (symEnd s = s.size) = symbolB s := by
  by_cases h : ∀ j, j < s.size → sat s j = true
  · rw [symbolB_good h, symEnd_all h]; simp [h1, h2]
  · have ⟨j, hj, hs⟩ : ∃ j, j < s.size ∧ sat s j = false := by
      apply Classical.byContradiction
      intro hn
      exact h (fun j hj => by
        cases e : sat s j with
        | true => rfl
        | false => exact absurd ⟨j, hj, e⟩ hn)
    rw [symbolB_bad hj hs, decide_eq_false_iff_not]
    intro he
    unfold symEnd at he
    cases e : (List.range s.size).find? (fun k => !sat s k) with
    | none =>
      rw [List.find?_eq_none] at e
      have := e j (by simpa using hj)
      simp [hs] at this
    | some k =>
      rw [e] at he
      have := List.mem_of_find?_eq_some e
      simp at this he
      omega

set_option maxHeartbeats 1000000 in
theorem symLen_any (s : ByteArray) (hs : s.size ≤ maxLen) (w : World) :
    Calls Try.prog 35 #[.string s] w fun e w' => e = .returned (.int .i64 (symEnd s)) ∧ w = w' := by
  unfold maxLen at hs
  go_enter Try.func35, Try.ntmps35
  go_wp2
  go_loop [3] (fun i => ∃ k : Nat, k ≤ s.size ∧ i = .int .i64 k ∧ ∀ j, j < k → sat s j = true) (fun i => s.size - (intOf i).toNat)
  case atStart => exact ⟨0, by omega, rfl, by omega⟩
  case round =>
    obtain ⟨k, hk, rfl, hj⟩ := hrel
    have HJ := Lib.hid hj
    clear hj
    by_cases hlt : k < s.size
    · have hb := bt_eq s k hlt
      have hlti : (k : Int) < s.size := by omega
      cases hl : symB (bt s k)
      · have HL := Lib.hid (show sat s k = false from hl)
        go_wp2_with (go_at_call 36; refine (symByte_any _ (bt_lt s k) _).mono ?_; rintro e w' ⟨rfl, rfl⟩)
        go_ret
        exact ⟨ret_int (by rw [symEnd_hit hlt HJ.out HL.out]), rfl⟩
      · have HL := Lib.hid (show sat s k = true from hl)
        go_wp2_with (go_at_call 36; refine (symByte_any _ (bt_lt s k) _).mono ?_; rintro e w' ⟨rfl, rfl⟩)
        go_round
        case rel => exact ⟨k + 1, by omega, by go_num, sat_step HJ.out HL.out⟩
        case measure => simp [intOf]; omega
    · have hge : ¬ ((k : Int) < s.size) := by omega
      have hd : decide ((k : Int) < s.size) = false := by simpa using hge
      have hkk : k = s.size := by omega
      go_wp2
      go_ret
      exact ⟨ret_int (by rw [symEnd_all (fun j hj => HJ.out j (by omega))]), rfl⟩

set_option maxHeartbeats 1000000 in
theorem symbol_any (s : ByteArray) (hs : s.size ≤ maxLen) (w : World) :
    Calls Try.prog 19 #[.string s] w fun e w' => e = .returned (.bool (symbolB s)) ∧ w = w' := by
  unfold maxLen at hs
  go_enter Try.func19, Try.ntmps19
  go_wp2
  go_loop [3] (fun i => ∃ k : Nat, k ≤ s.size ∧ i = .int .i64 k ∧ ∀ j, j < k → sat s j = true) (fun i => s.size - (intOf i).toNat)
  case atStart => exact ⟨0, by omega, rfl, by omega⟩
  case round =>
    obtain ⟨k, hk, rfl, hj⟩ := hrel
    have HJ := Lib.hid hj
    clear hj
    by_cases hlt : k < s.size
    · have hb := bt_eq s k hlt
      cases hl : symB (bt s k)
      · have HL := Lib.hid (show sat s k = false from hl)
        go_wp2_with (go_at_call 31; refine (symbolByte_any _ (bt_lt s k) _).mono ?_; rintro e w' ⟨rfl, rfl⟩)
        go_ret
        exact ⟨ret_bool (symbolB_bad hlt HL.out).symm, rfl⟩
      · have HL := Lib.hid (show sat s k = true from hl)
        go_wp2_with (go_at_call 31; refine (symbolByte_any _ (bt_lt s k) _).mono ?_; rintro e w' ⟨rfl, rfl⟩)
        go_round
        case rel => exact ⟨k + 1, by omega, by go_num, sat_step HJ.out HL.out⟩
        case measure => simp [intOf]; omega
    · have hge : ¬ ((k : Int) < s.size) := by omega
      go_wp2_with (go_at_call 18; refine (in_any _ _ _ _).mono ?_; rintro e w' ⟨rfl, rfl⟩)
      go_ret
      exact ⟨ret_bool (by rw [symbolB_good (fun j hj => HJ.out j (by omega))]; simp only [inB]; rw [Bool.eq_iff_iff]; simp; omega), rfl⟩

set_option maxHeartbeats 1000000 in
theorem isSymbol_any (s : ByteArray) (hs : s.size ≤ maxLen) (w : World) :
    Calls Try.prog 27 #[.string s] w fun e w' => e = .returned (.bool (symbolB s)) ∧ w = w' := by
  rcases Nat.eq_zero_or_pos s.size with h0 | h0
  · have hl := toList_nil h0
    have HB := Lib.hid (show symbolB s = false by simp [symbolB, h0])
    clear h0
    go_enter Try.func27, Try.ntmps27
    go_wp2
    go_ret
    exact ⟨ret_bool HB.out.symm, rfl⟩
  have hl := toList_not h0
  have hl2 : (!s.toList.isEmpty) = true := by rw [hl]; rfl
  rcases Nat.lt_or_ge 12 s.size with h12 | h12
  · have HB := Lib.hid (show symbolB s = false by simp [symbolB]; omega)
    have hd : decide ((s.size : Int) ≤ 12) = false := by simp; omega
    go_enter Try.func27, Try.ntmps27
    go_wp2
    go_ret
    exact ⟨ret_bool HB.out.symm, rfl⟩
  · have HB := Lib.hid (symbolB_end s h0 h12)
    have hd : decide ((s.size : Int) ≤ 12) = true := by simp; omega
    go_enter Try.func27, Try.ntmps27
    go_wp2_with (go_at_call 35; refine (symLen_any _ hs _).mono ?_; rintro e w' ⟨rfl, rfl⟩)
    go_ret
    exact ⟨ret_bool (by rw [← HB.out, Bool.eq_iff_iff]; simp; omega), rfl⟩

end Go.Proofs.Ytbdollafpjejiaa
