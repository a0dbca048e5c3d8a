/- Contracts of the leaves: isSpace, isSymbolByte, SymbolByte. -/
import Derived.Test.YtbdollafpjejiaaSbase
import Derived.Lib.Bytealg
import Derived.Test.YtbdollafpjejiaaSplain
namespace Go.Proofs.Ytbdollafpjejiaa
open Go.RowKit Go.Shelf
set_option linter.unusedSimpArgs false
set_option linter.unusedVariables false
set_option maxRecDepth 100000

def spB (c : Int) : Bool := c == 32 || c == 9 || c == 10
set_option maxHeartbeats 400000 in
theorem space_any (c : Int) (w : World) :
    Calls Try.prog 39 #[.int .u8 c] w fun e w' => e = .returned (.bool (spB c)) ∧ w = w' := by
  by_cases h1 : c = 32 <;> by_cases h2 : c = 9 <;> by_cases h3 : c = 10 <;>
  · go_enter Try.func39, Try.ntmps39
    go_wp2
    go_ret
    exact ⟨by simp [spB, h1, h2, h3], rfl⟩

def others : List UInt8 := [45, 95, 63, 58, 61, 60, 62, 43, 42, 47, 46]
/-- a symbol byte -/
def symB (c : Nat) : Bool := (97 ≤ c && c ≤ 122) || (65 ≤ c && c ≤ 90) || (48 ≤ c && c ≤ 57) || others.any (·.toNat == c)

theorem idx_sym : ∀ c, c < 256 → decide (Lib.indexByte others (Nat.toUInt8 c) ≥ 0) = others.any (·.toNat == c) := by decide +kernel

theorem symB_lo (c : Nat) (h : (97 ≤ c ∧ c ≤ 122) ∨ (65 ≤ c ∧ c ≤ 90) ∨ (48 ≤ c ∧ c ≤ 57)) : symB c = true := by
  unfold symB
  rcases h with ⟨a, b⟩ | ⟨a, b⟩ | ⟨a, b⟩ <;> simp [a, b]
theorem symB_hi (c : Nat) (h1 : ¬(97 ≤ c ∧ c ≤ 122)) (h2 : ¬(65 ≤ c ∧ c ≤ 90)) (h3 : ¬(48 ≤ c ∧ c ≤ 57)) : symB c = others.any (·.toNat == c) := by
  unfold symB
  have a1 : (decide (97 ≤ c) && decide (c ≤ 122)) = false := by simpa using h1
  have a2 : (decide (65 ≤ c) && decide (c ≤ 90)) = false := by simpa using h2
  have a3 : (decide (48 ≤ c) && decide (c ≤ 57)) = false := by simpa using h3
  simp only [a1, a2, a3, Bool.false_or]


set_option maxHeartbeats 1000000 in
theorem symByte_any (c : Nat) (hc : c < 256) (w : World) :
    Calls Try.prog 36 #[.int .u8 c] w fun e w' => e = .returned (.bool (symB c)) ∧ w = w' := by
  have hi := Lib.hid (idx_sym c hc)
  go_enter Try.func36, Try.ntmps36
  go_wp2_with (go_at_call 41; refine (Try.strings_IndexByte _ _ _).mono ?_; rintro e w' ⟨rfl, rfl⟩)
  all_goals
    go_ret
    refine ⟨ret_bool ?_, rfl⟩
    first
      | exact (symB_lo c (by omega)).symm
      | (rw [symB_hi c (by omega) (by omega) (by omega), ← hi.out]; rfl)

theorem bget (s : ByteArray) (k : Nat) (h : k < s.size) : s[k] = s.data.toList.getD k 0 := by
  simp [List.getD, ByteArray.getElem_eq_getElem_data]
  rw [Array.getElem?_eq_getElem]
  rfl

theorem oth_eq (c k : Nat) (b : Bool) (hk : k < (⟨#[45, 95, 63, 58, 61, 60, 62, 43, 42, 47, 46]⟩ : ByteArray).size) (h : (((⟨#[45, 95, 63, 58, 61, 60, 62, 43, 42, 47, 46]⟩ : ByteArray)[k].toNat : Int) == (c : Int)) = b) :
    decide ((others.getD k 0).toNat = c) = b := by
  rw [bget _ k hk] at h
  rw [← h, Bool.eq_iff_iff]
  simp [others]
  omega

theorem symB_hit (c k : Nat) (n1 : ¬inB c 97 122 = true) (n2 : ¬inB c 65 90 = true) (n3 : inB c 48 57 = false) (hk : k < 11) (h : (others.getD k 0).toNat = c) : symB c = true := by
  simp [inB] at n1 n2 n3
  rw [symB_hi c (by omega) (by omega) (by omega), List.any_eq_true]
  have hl : k < others.length := hk
  refine ⟨others[k], List.getElem_mem _, ?_⟩
  simp only [List.getD, List.getElem?_eq_getElem hl, Option.getD_some] at h
  simpa using h

theorem symB_miss (c : Nat) (n1 : ¬inB c 97 122 = true) (n2 : ¬inB c 65 90 = true) (n3 : inB c 48 57 = false) (h : ∀ j, j < 11 → (others.getD j 0).toNat ≠ c) : symB c = false := by
  simp [inB] at n1 n2 n3
  rw [symB_hi c (by omega) (by omega) (by omega), List.any_eq_false]
  intro x hx
  obtain ⟨j, hj, rfl⟩ := List.getElem_of_mem hx
  have := h j hj
  simp only [List.getD, List.getElem?_eq_getElem hj, Option.getD_some] at this
  simpa using this

set_option maxHeartbeats 1000000 in
theorem symbolByte_any (c : Nat) (hc : c < 256) (w : World) :
    Calls Try.prog 31 #[.int .u8 c] w fun e w' => e = .returned (.bool (symB c)) ∧ w = w' := by
  go_enter Try.func31, Try.ntmps31
  go_wp2_with (go_at_call 18; refine (in_any _ _ _ _).mono ?_; rintro e w' ⟨rfl, rfl⟩)
  all_goals first
    | (go_ret; exact ⟨ret_bool (symB_lo c (by simp_all [inB]; omega)).symm, rfl⟩)
    | skip
  go_loop [5] (fun i => ∃ k : Nat, k ≤ 11 ∧ i = .int .i64 k ∧ ∀ j, j < k → (others.getD j 0).toNat ≠ c) (fun i => 11 - (intOf i).toNat)
  case atStart => exact ⟨0, by omega, rfl, by omega⟩
  case round =>
    obtain ⟨k, hk, rfl, hj⟩ := hrel
    have HJ := Lib.hid hj
    clear hj
    go_wp2
    · have hlt : (k : Int) < 11 := by assumption
      have hb := oth_eq c k true (by show k < 11; omega) (by assumption)
      go_ret
      exact ⟨ret_bool (symB_hit c k ‹_› ‹_› ‹_› (by omega) (of_decide_eq_true hb)).symm, rfl⟩
    · have hlt : (k : Int) < 11 := by assumption
      have hb := oth_eq c k false (by show k < 11; omega) (by assumption)
      go_round
      case rel =>
        refine ⟨k + 1, by omega, by go_num, fun j hj => ?_⟩
        by_cases e : j = k
        · subst e
          exact of_decide_eq_false hb
        · exact HJ.out j (by omega)
      case measure => simp [intOf]; omega
    · have hge : (11 : Int) ≤ k := by assumption
      go_ret
      exact ⟨ret_bool (symB_miss c ‹_› ‹_› ‹_› (fun j hj => HJ.out j (by omega))).symm, rfl⟩

end Go.Proofs.Ytbdollafpjejiaa
