/- Package invariant: breaks, inductive. -/
import Derived.Test.YtenmegkokclolaaDoorVpc
import Derived.Test.YtenmegkokclolaaDoorMza
namespace Go.Proofs.YtenmegkokclolaaDoor
open Go.RowKit
set_option linter.unusedSimpArgs false
set_option linter.unusedVariables false
set_option maxRecDepth 100000

/-- What is in both lists; what is in the first alone. -/
def metL (a b : List Int) : List Int := facs 24 (fun p => decide ((p : Int) ∈ a) && decide ((p : Int) ∈ b))
def difL (a b : List Int) : List Int := facs 24 (fun p => decide ((p : Int) ∈ a) && !decide ((p : Int) ∈ b))
theorem mem_metL {a b : List Int} (ha : IsS a 24) {x : Int} : x ∈ metL a b ↔ x ∈ a ∧ x ∈ b := by
  unfold metL
  rw [mem_facs, Bool.and_eq_true, decide_eq_true_eq, decide_eq_true_eq]
  constructor
  · rintro ⟨h0, h1, h2, h3⟩
    rw [Int.toNat_of_nonneg h0] at h2 h3
    exact ⟨h2, h3⟩
  · rintro ⟨h2, h3⟩
    obtain ⟨h0, h1⟩ := ha.2 x h2
    rw [Int.toNat_of_nonneg h0]
    exact ⟨h0, h1, h2, h3⟩
theorem mem_difL {a b : List Int} (ha : IsS a 24) {x : Int} : x ∈ difL a b ↔ x ∈ a ∧ x ∉ b := by
  unfold difL
  rw [mem_facs, Bool.and_eq_true, decide_eq_true_eq, Bool.not_eq_true', decide_eq_false_iff_not]
  constructor
  · rintro ⟨h0, h1, h2, h3⟩
    rw [Int.toNat_of_nonneg h0] at h2 h3
    exact ⟨h2, h3⟩
  · rintro ⟨h2, h3⟩
    obtain ⟨h0, h1⟩ := ha.2 x h2
    rw [Int.toNat_of_nonneg h0]
    exact ⟨h0, h1, h2, h3⟩
theorem metL_isS (a b : List Int) : IsS (metL a b) 24 := facs_isS _ _
theorem difL_isS (a b : List Int) : IsS (difL a b) 24 := facs_isS _ _
theorem met_bits {a b : List Int} (ha : IsS a 24) (hb : IsS b 24) : bits .and .u64 (mask a : Int) (mask b : Int) = (mask (metL a b) : Int) := by
  rw [u64_and_nat _ _ (mask_lt64 ha) (mask_lt64 hb)]
  congr 1
  apply Nat.eq_of_testBit_eq
  intro p
  rw [Nat.testBit_and, mask_bit (fun x hx => (ha.2 x hx).1), mask_bit (fun x hx => (hb.2 x hx).1), mask_bit (fun x hx => ((metL_isS a b).2 x hx).1)]
  rw [Bool.eq_iff_iff, Bool.and_eq_true, decide_eq_true_eq, decide_eq_true_eq, decide_eq_true_eq, mem_metL ha]
theorem dif_bits {a b : List Int} (ha : IsS a 24) (hb : IsS b 24) : bits .andNot .u64 (mask a : Int) (mask b : Int) = (mask (difL a b) : Int) := by
  rw [u64_andNot_nat _ _ (mask_lt64 ha) (mask_lt64 hb)]
  congr 1
  apply Nat.eq_of_testBit_eq
  intro p
  rw [Nat.testBit_and, bit_not (mask_lt64 hb), mask_bit (fun x hx => (ha.2 x hx).1), mask_bit (fun x hx => (hb.2 x hx).1), mask_bit (fun x hx => ((difL_isS a b).2 x hx).1)]
  rw [Bool.eq_iff_iff]
  simp only [Bool.and_eq_true, decide_eq_true_eq, Bool.not_eq_true', decide_eq_false_iff_not, mem_difL ha]
  constructor
  · rintro ⟨h1, h2, h3⟩; exact ⟨h1, h3⟩
  · rintro ⟨h1, h3⟩; exact ⟨h1, by have := (ha.2 _ h1).2; omega, h3⟩
theorem dif_bits_ne {a b : List Int} (ha : IsS a 24) (hb : IsS b 24) : (bits .andNot .u64 (mask a : Int) (mask b : Int) != 0) = !subB a b := by
  rw [bne, u64_andNot_nat _ _ (mask_lt64 ha) (mask_lt64 hb), zero_cast, andNot_zero ha hb]
theorem lenM_any {a b : List Int} (ha : IsS a 24) (hb : IsS b 24) (w : World) :
    Calls Tryd.prog 43 #[.int .u64 (bits .and .u64 (mask a : Int) (mask b : Int))] w fun e w' => e = .returned (.int .i64 (metL a b).length) ∧ w = w' := by
  rw [met_bits ha hb]
  exact len_any _ w (metL_isS a b)

/-- The facts of a group of which one can be true before an operator; those of them that it leaves. -/
def bfL (o : Opr) (g : List Int) : List Int := if disB o.pre g then g else metL o.pre g
def rmL (o : Opr) (g : List Int) : List Int := difL (bfL o g) o.del
def brkB (o : Opr) (g : List Int) : Bool :=
  if 1 < (metL o.pre g).length then false else decide (1 < (metL o.add g).length) || (decide ((metL o.add g).length = 1) && !subB (rmL o g) (metL o.add g))
theorem bfL_isS {o : Opr} {g : List Int} (hg : IsS g 24) : IsS (bfL o g) 24 := by
  unfold bfL; split
  · exact hg
  · exact metL_isS _ _
theorem left_bits {o : Opr} {g : List Int} (ho : OpS o 24) (hg : IsS g 24) :
    (bits .andNot .u64 (bits .andNot .u64 (mask (bfL o g) : Int) (mask o.del : Int)) (bits .and .u64 (mask o.add : Int) (mask g : Int)) != 0) = !subB (rmL o g) (metL o.add g) := by
  rw [dif_bits (bfL_isS hg) ho.del, met_bits ho.add hg, dif_bits_ne (difL_isS _ _) (metL_isS _ _)]
  rfl

set_option maxHeartbeats 2000000 in
theorem breaks_any (o : Opr) (g : List Int) (a1 a2 a3 : Option Addr) (c1 c2 c3 : Nat) (w : World) (hO : OpS o 24) (hg : IsS g 24) (hV : OpV w w.heap.size o a1 a2 a3 c1 c2 c3) :
    Calls Tryd.prog 46 #[.agg #[.slice a1 o.pre.length c1, .slice a2 o.add.length c2, .slice a3 o.del.length c3, .int .i64 o.cost], .int .u64 (mask g)] w fun e w' => e = .returned (.bool (brkB o g)) ∧ Below w.heap.size w w' := by
  have hb1 : Below w.heap.size w (w.alloc (.cells #[.slice a1 o.pre.length c1, .slice a2 o.add.length c2, .slice a3 o.del.length c3, .int .i64 o.cost] 55)) := by go_grown
  have HV := Lib.hid (hV.to hb1 hb1.size)
  have HP := Lib.hid (show IsS o.pre 24 from hO.pre)
  have HA := Lib.hid (show IsS o.add 24 from hO.add)
  have HD := Lib.hid (show IsS o.del 24 from hO.del)
  have HG := Lib.hid hg
  have HL := Lib.hid (left_bits hO hg)
  have HNE := and_bits_ne hO.pre hg
  clear hV hO hg hb1
  by_cases h1 : 1 < (metL o.pre g).length
  · have H := Lib.hid (show brkB o g = false by unfold brkB; rw [if_pos h1])
    have d1 : decide ((1 : Int) < (metL o.pre g).length) = true := decide_eq_true (by omega)
    clear h1 HL
    go_enter Tryd.func46, Tryd.ntmps46
    go_wp2
    go_quiet (first | (go_at_call 27; (with_reducible refine quiet_same (setOf_any a1 c1 o.pre _ HP.out ?_)); exact HV.out.pre.nums) | (go_at_call 27; (with_reducible refine quiet_same (setOf_any a2 c2 o.add _ HA.out ?_)); exact HV.out.add.nums))
    go_wp2_with (go_at_call 43; (with_reducible refine (lenM_any HP.out HG.out _).mono ?_); rintro e w' ⟨rfl, rfl⟩)
    go_ret
    exact ⟨ret_val (by rw [H.out]; rfl), belowN (by go_grown) _⟩
  have d1 : decide ((1 : Int) < (metL o.pre g).length) = false := decide_eq_false (by omega)
  have HB0 : brkB o g = (decide (1 < (metL o.add g).length) || (decide ((metL o.add g).length = 1) && !subB (rmL o g) (metL o.add g))) := by unfold brkB; rw [if_neg h1]
  clear h1
  unfold bfL at HL
  cases hd : disB o.pre g
  all_goals
    rw [hd] at HNE HL
    simp only [Bool.not_false, Bool.not_true, ite_true, Bool.false_eq_true, ite_false] at HNE HL
    first | rw [← met_bits HP.out HG.out] at HL | skip
    clear hd
    by_cases h2 : 1 < (metL o.add g).length
    · have H := Lib.hid (show brkB o g = true by rw [HB0, decide_eq_true h2]; rfl)
      have d2 : decide ((1 : Int) < (metL o.add g).length) = true := decide_eq_true (by omega)
      clear h2 HL HB0
      go_enter Tryd.func46, Tryd.ntmps46
      go_wp2
      go_quiet (first | (go_at_call 27; (with_reducible refine quiet_same (setOf_any a1 c1 o.pre _ HP.out ?_)); exact HV.out.pre.nums) | (go_at_call 27; (with_reducible refine quiet_same (setOf_any a2 c2 o.add _ HA.out ?_)); exact HV.out.add.nums))
      go_wp2_with (first | (go_at_call 27; (with_reducible refine (setOf_any a3 c3 o.del _ HD.out ?_).mono ?_); (exact HV.out.del.nums); rintro e w' ⟨rfl, rfl⟩) | (go_at_call 43; (with_reducible refine (lenM_any HP.out HG.out _).mono ?_); rintro e w' ⟨rfl, rfl⟩) | (go_at_call 43; (with_reducible refine (lenM_any HA.out HG.out _).mono ?_); rintro e w' ⟨rfl, rfl⟩))
      go_ret
      exact ⟨ret_val (by rw [H.out]; rfl), belowN (by go_grown) _⟩
    have d2 : decide ((1 : Int) < (metL o.add g).length) = false := decide_eq_false (by omega)
    by_cases h3 : (metL o.add g).length = 1
    · have H := Lib.hid (show brkB o g = !subB (rmL o g) (metL o.add g) by rw [HB0, decide_eq_false h2, decide_eq_true h3]; rfl)
      have d3 : (((metL o.add g).length : Int) == 1) = true := by simp [h3]
      clear h2 h3 HB0
      have HL' := Lib.hid HL
      clear HL
      go_enter Tryd.func46, Tryd.ntmps46
      go_wp2
      go_quiet (first | (go_at_call 27; (with_reducible refine quiet_same (setOf_any a1 c1 o.pre _ HP.out ?_)); exact HV.out.pre.nums) | (go_at_call 27; (with_reducible refine quiet_same (setOf_any a2 c2 o.add _ HA.out ?_)); exact HV.out.add.nums))
      go_wp2_with (first | (go_at_call 27; (with_reducible refine (setOf_any a3 c3 o.del _ HD.out ?_).mono ?_); (exact HV.out.del.nums); rintro e w' ⟨rfl, rfl⟩) | (go_at_call 43; (with_reducible refine (lenM_any HP.out HG.out _).mono ?_); rintro e w' ⟨rfl, rfl⟩) | (go_at_call 43; (with_reducible refine (lenM_any HA.out HG.out _).mono ?_); rintro e w' ⟨rfl, rfl⟩))
      go_ret
      exact ⟨ret_val (by rw [H.out, ← HL'.out]; rfl), belowN (by go_grown) _⟩
    · have H := Lib.hid (show brkB o g = false by rw [HB0, decide_eq_false h2, decide_eq_false h3]; rfl)
      have d3 : (((metL o.add g).length : Int) == 1) = false := by simp; omega
      clear h2 h3 HB0 HL
      go_enter Tryd.func46, Tryd.ntmps46
      go_wp2
      go_quiet (first | (go_at_call 27; (with_reducible refine quiet_same (setOf_any a1 c1 o.pre _ HP.out ?_)); exact HV.out.pre.nums) | (go_at_call 27; (with_reducible refine quiet_same (setOf_any a2 c2 o.add _ HA.out ?_)); exact HV.out.add.nums))
      go_wp2_with (first | (go_at_call 27; (with_reducible refine (setOf_any a3 c3 o.del _ HD.out ?_).mono ?_); (exact HV.out.del.nums); rintro e w' ⟨rfl, rfl⟩) | (go_at_call 43; (with_reducible refine (lenM_any HP.out HG.out _).mono ?_); rintro e w' ⟨rfl, rfl⟩) | (go_at_call 43; (with_reducible refine (lenM_any HA.out HG.out _).mono ?_); rintro e w' ⟨rfl, rfl⟩))
      go_ret
      exact ⟨ret_val (by rw [H.out]; rfl), belowN (by go_grown) _⟩
end Go.Proofs.YtenmegkokclolaaDoor
