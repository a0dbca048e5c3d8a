/- after and operatorCode of package strips. -/
import Derived.Test.YtenmegkokclolaaDoorKis
namespace Go.Proofs.YtenmegkokclolaaDoor
open Go.RowKit
set_option linter.unusedSimpArgs false
set_option linter.unusedVariables false
set_option maxRecDepth 100000

/-- The lists of an operator are sets of facts below n. -/
structure OpS (o : Opr) (n : Nat) : Prop where
  pre : IsS o.pre n
  add : IsS o.add n
  del : IsS o.del n
def aftW (n : Nat) (o : Opr) (s : List Int) : Nat := if subB o.pre s then mask (aftL n o.add o.del s) else 0
theorem aft_bits {n : Nat} (hn : n ≤ 24) {o : Opr} (ho : OpS o n) {s : List Int} (hs : IsS s n) :
    bits .or .u64 (bits .andNot .u64 (mask s : Int) (mask o.del : Int)) (mask o.add : Int) = (mask (aftL n o.add o.del s) : Int) := by
  have h24 : ∀ {l : List Int}, IsS l n → IsS l 24 := fun h => h.mono (by omega)
  have h1 := mask_lt64 (h24 hs)
  rw [u64_andNot_nat _ _ h1 (mask_lt64 (h24 ho.del)), u64_or_nat _ _ (Nat.lt_of_le_of_lt Nat.and_le_left h1) (mask_lt64 (h24 ho.add)), mask_aft hn ho.add ho.del hs]

set_option maxHeartbeats 2000000 in
theorem after_any (n : Nat) (hn : n ≤ 24) (o : Opr) (a1 a2 a3 : Option Addr) (c1 c2 c3 : Nat) (s : List Int) (w : World) (hO : OpS o n) (hs : IsS s n) (hV : OpV w w.heap.size o a1 a2 a3 c1 c2 c3) :
    Calls Tryd.prog 57 #[.agg #[.slice a1 o.pre.length c1, .slice a2 o.add.length c2, .slice a3 o.del.length c3, .int .i64 o.cost], .int .u64 (mask s)] w fun e w' => e = .returned (.tuple #[.int .u64 (aftW n o s), .bool (subB o.pre s)]) ∧ Below w.heap.size w w' := by
  have h24 : ∀ {l : List Int}, IsS l n → IsS l 24 := fun h => h.mono (by omega)
  have hV1 : OpV (w.alloc (.cells #[.slice a1 o.pre.length c1, .slice a2 o.add.length c2, .slice a3 o.del.length c3, .int .i64 o.cost] 55)) (w.alloc (.cells #[.slice a1 o.pre.length c1, .slice a2 o.add.length c2, .slice a3 o.del.length c3, .int .i64 o.cost] 55)).heap.size o a1 a2 a3 c1 c2 c3 := hV.to ((Below.refl _ _).alloc (Nat.le_refl _) _) (by simp)
  have HV := Lib.hid hV1
  clear hV hV1
  have HP := Lib.hid (h24 hO.pre)
  have HA := Lib.hid (h24 hO.add)
  have HD := Lib.hid (h24 hO.del)
  have HS := Lib.hid (h24 hs)
  have HB := Lib.hid (aft_bits hn hO hs)
  clear hO hs h24
  cases hsub : subB o.pre s
  · have HW := Lib.hid (show aftW n o s = 0 by simp [aftW, hsub])
    go_enter Tryd.func57, Tryd.ntmps57
    go_wp2_with (first
      | (go_at_call 27; refine (setOf_any _ _ _ _ HP.out HV.out.pre.nums).mono ?_; rintro e w' ⟨rfl, rfl⟩)
      | (go_at_call 49; refine (contains_any _ _ _ HS.out HP.out).mono ?_; rintro e w' ⟨rfl, rfl⟩))
    go_ret2
    exact ⟨ret_val (by rw [HW.out]; rfl), by go_grown⟩
  · have HW := Lib.hid (show aftW n o s = mask (aftL n o.add o.del s) by simp [aftW, hsub])
    go_enter Tryd.func57, Tryd.ntmps57
    go_wp2_with (first
      | (go_at_call 27; refine (setOf_any _ _ _ _ HP.out HV.out.pre.nums).mono ?_; rintro e w' ⟨rfl, rfl⟩)
      | (go_at_call 49; refine (contains_any _ _ _ HS.out HP.out).mono ?_; rintro e w' ⟨rfl, rfl⟩))
    go_quiet (first
      | (go_at_call 27; (with_reducible refine quiet_same (setOf_any a3 c3 o.del _ HD.out ?_)); exact HV.out.del.nums)
      | (go_at_call 27; (with_reducible refine quiet_same (setOf_any a2 c2 o.add _ HA.out ?_)); exact HV.out.add.nums))
    go_wp2
    go_ret2
    exact ⟨(show Ending.returned (.tuple #[.int .u64 _, .bool true]) = _ from by rw [HB.out, HW.out]), belowN (by go_grown) _⟩

/-- The code of an operator of a task with n facts. -/
def opCode (n : Int) (o : Opr) : Int :=
  if !setB o.pre n || !setB o.add n || !setB o.del n || !disB o.add o.del then 5 else if o.cost < 0 ∨ 100 < o.cost then 3 else 0
theorem opCode_s {n : Int} {o : Opr} (h : (setB o.pre n && setB o.add n && setB o.del n) = false) : opCode n o = 5 := by
  unfold opCode
  rw [if_pos]
  revert h
  cases setB o.pre n <;> cases setB o.add n <;> cases setB o.del n <;> simp
theorem opCode_d {n : Int} {o : Opr} (h : disB o.add o.del = false) : opCode n o = 5 := by simp [opCode, h]
theorem opCode_c {n : Int} {o : Opr} (h1 : setB o.pre n = true) (h2 : setB o.add n = true) (h3 : setB o.del n = true) (h4 : disB o.add o.del = true) : opCode n o = if o.cost < 0 ∨ 100 < o.cost then 3 else 0 := by simp [opCode, h1, h2, h3, h4]
theorem opCode_zero {n : Nat} {o : Opr} (h : opCode n o = 0) : OpS o n ∧ disB o.add o.del = true ∧ 0 ≤ o.cost ∧ o.cost ≤ 100 := by
  unfold opCode at h
  split at h
  · cases h
  · rename_i hn
    split at h
    · cases h
    · rename_i hc
      simp at hn
      exact ⟨⟨setB_iff.1 hn.1.1.1, setB_iff.1 hn.1.1.2, setB_iff.1 hn.1.2⟩, hn.2, by omega, by omega⟩

theorem and_bits {a b : List Int} (ha : IsS a 24) (hb : IsS b 24) : (bits .and .u64 (mask a : Int) (mask b : Int) == 0) = disB a b := by
  rw [u64_and_nat _ _ (mask_lt64 ha) (mask_lt64 hb), zero_cast, and_zero ha hb]
theorem and_bits_ne {a b : List Int} (ha : IsS a 24) (hb : IsS b 24) : (bits .and .u64 (mask a : Int) (mask b : Int) != 0) = !disB a b := by
  rw [bne, and_bits ha hb]

set_option maxHeartbeats 4000000 in
theorem opCode_any (n : Int) (hn : n ≤ 24) (o : Opr) (a1 a2 a3 : Option Addr) (c1 c2 c3 : Nat) (w : World) (hV : OpV w w.heap.size o a1 a2 a3 c1 c2 c3) :
    Calls Tryd.prog 42 #[.agg #[.slice a1 o.pre.length c1, .slice a2 o.add.length c2, .slice a3 o.del.length c3, .int .i64 o.cost], .int .i64 n] w fun e w' => e = .returned (.int .i64 (opCode n o)) ∧ Below w.heap.size w w' := by
  have hV1 : OpV (w.alloc (.cells #[.slice a1 o.pre.length c1, .slice a2 o.add.length c2, .slice a3 o.del.length c3, .int .i64 o.cost] 55)) (w.alloc (.cells #[.slice a1 o.pre.length c1, .slice a2 o.add.length c2, .slice a3 o.del.length c3, .int .i64 o.cost] 55)).heap.size o a1 a2 a3 c1 c2 c3 := hV.to ((Below.refl _ _).alloc (Nat.le_refl _) _) (by simp)
  have I1 := Lib.hid (isSet_any a1 c1 o.pre n _ hn hV1.pre.nums hV1.pre.len)
  have I2 := Lib.hid (isSet_any a2 c2 o.add n _ hn hV1.add.nums hV1.add.len)
  have I3 := Lib.hid (isSet_any a3 c3 o.del n _ hn hV1.del.nums hV1.del.len)
  have HV := Lib.hid hV1
  clear hV hV1
  cases h1 : setB o.pre n
  case false =>
    have HQ := Lib.hid (opCode_s (n := n) (o := o) (by simp [h1]))
    go_enter Tryd.func42, Tryd.ntmps42
    go_wp2_with (go_at_call 25; (with_reducible refine I1.out.mono ?_); rintro e w' ⟨rfl, rfl⟩)
    go_ret
    exact ⟨ret_int HQ.out.symm, by go_grown⟩
  cases h2 : setB o.add n
  case false =>
    have HQ := Lib.hid (opCode_s (n := n) (o := o) (by simp [h2]))
    go_enter Tryd.func42, Tryd.ntmps42
    go_wp2_with (first
      | (go_at_call 25; (with_reducible refine I1.out.mono ?_); rintro e w' ⟨rfl, rfl⟩)
      | (go_at_call 25; (with_reducible refine I2.out.mono ?_); rintro e w' ⟨rfl, rfl⟩))
    go_ret
    exact ⟨ret_int HQ.out.symm, by go_grown⟩
  cases h3 : setB o.del n
  case false =>
    have HQ := Lib.hid (opCode_s (n := n) (o := o) (by simp [h3]))
    go_enter Tryd.func42, Tryd.ntmps42
    go_wp2_with (first
      | (go_at_call 25; (with_reducible refine I1.out.mono ?_); rintro e w' ⟨rfl, rfl⟩)
      | (go_at_call 25; (with_reducible refine I2.out.mono ?_); rintro e w' ⟨rfl, rfl⟩)
      | (go_at_call 25; (with_reducible refine I3.out.mono ?_); rintro e w' ⟨rfl, rfl⟩))
    go_ret
    exact ⟨ret_int HQ.out.symm, by go_grown⟩
  have hA := (setB_iff.1 h2).mono hn
  have hD := (setB_iff.1 h3).mono hn
  have hne := and_bits_ne hA hD
  have HA := Lib.hid hA
  have HD := Lib.hid hD
  clear hA hD
  cases h4 : disB o.add o.del
  case false =>
    have HQ := Lib.hid (opCode_d (n := n) h4)
    rw [h4] at hne
    clear h4
    go_enter Tryd.func42, Tryd.ntmps42
    go_wp2_with (first
      | (go_at_call 25; (with_reducible refine I1.out.mono ?_); rintro e w' ⟨rfl, rfl⟩)
      | (go_at_call 25; (with_reducible refine I2.out.mono ?_); rintro e w' ⟨rfl, rfl⟩)
      | (go_at_call 25; (with_reducible refine I3.out.mono ?_); rintro e w' ⟨rfl, rfl⟩))
    go_quiet (first
      | (go_at_call 27; (with_reducible refine quiet_same (setOf_any a3 c3 o.del _ HD.out ?_)); exact HV.out.del.nums)
      | (go_at_call 27; (with_reducible refine quiet_same (setOf_any a2 c2 o.add _ HA.out ?_)); exact HV.out.add.nums))
    go_wp2
    go_ret
    exact ⟨ret_int HQ.out.symm, belowN (by go_grown) _⟩
  have HQ := opCode_c h1 h2 h3 h4
  rw [h4] at hne
  clear h4
  rcases Int.lt_or_le o.cost 0 with g1 | g1
  case' inl =>
    rw [if_pos (.inl g1)] at HQ
  case' inr =>
    rcases Int.lt_or_le 100 o.cost with g2 | g2
  case' inr.inl =>
    rw [if_pos (.inr g2)] at HQ
  case' inr.inr =>
    rw [if_neg (by omega)] at HQ
  all_goals
    have HQ2 := Lib.hid HQ
    clear HQ
    go_enter Tryd.func42, Tryd.ntmps42
    go_wp2_with (first
      | (go_at_call 25; (with_reducible refine I1.out.mono ?_); rintro e w' ⟨rfl, rfl⟩)
      | (go_at_call 25; (with_reducible refine I2.out.mono ?_); rintro e w' ⟨rfl, rfl⟩)
      | (go_at_call 25; (with_reducible refine I3.out.mono ?_); rintro e w' ⟨rfl, rfl⟩))
    go_quiet (first
      | (go_at_call 27; (with_reducible refine quiet_same (setOf_any a3 c3 o.del _ HD.out ?_)); exact HV.out.del.nums)
      | (go_at_call 27; (with_reducible refine quiet_same (setOf_any a2 c2 o.add _ HA.out ?_)); exact HV.out.add.nums))
    go_wp2
    go_ret
    exact ⟨ret_int HQ2.out.symm, belowN (by go_grown) _⟩
end Go.Proofs.YtenmegkokclolaaDoor
