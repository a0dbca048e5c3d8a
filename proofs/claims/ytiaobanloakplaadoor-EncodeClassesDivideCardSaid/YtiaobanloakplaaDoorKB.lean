/- Kis, Kaf, Kva in one text. -/
import Derived.Test.YtiaobanloakplaaDoorKA
import Derived.Shelf.Spec.TrailingZeros

/- IsSet of the reference; TrailingZeros64; list and after of package strips. -/
section
namespace Go.Proofs.YtiaobanloakplaaDoor
open Go.RowKit
set_option linter.unusedSimpArgs false
set_option linter.unusedVariables false
set_option maxRecDepth 100000

set_option maxHeartbeats 2000000 in
theorem isSetR_any (A : Option Addr) (c : Nat) (l : List Int) (n : Int) (w : World) (hn0 : 0 ≤ n) (hn : n ≤ 24) (hL : Nums w w.heap.size A l) (hlen : l.length ≤ maxLen) :
    Calls Tryd.prog 35 #[.slice A l.length c, .int .i64 n] w fun e w' => e = .returned (.bool (setB l n)) ∧ Below w.heap.size w w' := by
  unfold maxLen at hlen
  have HL := Lib.hid hL
  clear hL
  have hnw : IntKind.i64.wrap (n - 1) = n - 1 := IntWalk.i64_in _ (by omega)
  go_enter Tryd.func35, Tryd.ntmps35
  go_wp2
  go_loopw [5] (fun i wr => ∃ k : Nat, k ≤ l.length ∧ i = .int .i64 k ∧ Below w.heap.size w wr ∧ ∀ j, j < k → okAt l n j = true) (fun i _ => l.length - (intOf i).toNat)
  case atStart => exact ⟨0, by omega, rfl, Below.refl _ _, by omega⟩
  case round =>
    obtain ⟨k, hk, rfl, hbw, hj⟩ := hrel
    have HJ := Lib.hid hj
    clear hj
    have HB := Lib.hid hbw
    clear hbw
    by_cases hlt : k < l.length
    · obtain ⟨b, o, rfl, _, hc⟩ := (HL.out.to HB.out (Nat.le_refl _)).at_ hlt
      cases hi : inB (ix l k) 0 (n - 1)
      · have HQ := Lib.hid (setB_bad hlt (okAt_in hi))
        go_wp2
        go_quiet ((go_at_call 29; exact quiet_same (in_any _ _ _ _)))
        go_wp2
        go_ret
        exact ⟨ret_bool HQ.out.symm, belowN HB.out _⟩
      · cases k with
        | zero =>
          have HQ := Lib.hid (okAt_first hi)
          rw [Nat.add_zero] at hc
          go_wp2
          go_quiet ((go_at_call 29; exact quiet_same (in_any _ _ _ _)))
          go_wp2
          go_roundw
          case rel => exact ⟨1, by omega, by go_num, belowN HB.out _, okAt_step HJ.out HQ.out⟩
          case measure => simp [intOf]; omega
        | succ k =>
          obtain ⟨b2, o2, e2, _, hc2⟩ := (HL.out.to HB.out (Nat.le_refl _)).at_ (show k < l.length by omega)
          injection e2 with e2
          injection e2 with e3 e4
          subst e3 e4
          have hpos : decide (0 < ((k + 1 : Nat) : Int)) = true := decide_eq_true (by omega)
          have hk1 : ((k + 1 : Nat) : Int) - 1 = (k : Int) := by omega
          rcases Int.lt_or_le (ix l k) (ix l (k + 1)) with h1 | h1
          · have HQ := Lib.hid (okAt_next hi h1)
            have h1' : decide (ix l (k + 1) ≤ ix l k) = false := by simpa using h1
            go_wp2
            go_quiet ((go_at_call 29; exact quiet_same (in_any _ _ _ _)))
            go_wp2
            go_roundw
            case rel => exact ⟨k + 1 + 1, by omega, by go_num, belowN HB.out _, okAt_step HJ.out HQ.out⟩
            case measure => simp [intOf]; omega
          · have HQ := Lib.hid (setB_bad hlt (okAt_not (n := n) h1))
            have h1' : decide (ix l (k + 1) ≤ ix l k) = true := by simpa using h1
            go_wp2
            go_quiet ((go_at_call 29; exact quiet_same (in_any _ _ _ _)))
            go_wp2
            go_ret
            exact ⟨ret_bool HQ.out.symm, belowN HB.out _⟩
    · have hge : ¬ ((k : Int) < l.length) := by omega
      go_wp2
      go_ret
      exact ⟨ret_bool (setB_good (fun j hj => HJ.out j (by omega))).symm, HB.out⟩
theorem run_u64 (m : Nat) (hm : m < 18446744073709551616) : IntKind.u64.wrap (m : Int) = m := by rw [IntKind.wrap_u64]; omega
/-- The table of math/bits stands in its variable. -/
structure TabIn (w : World) : Prop where
  lt : 0 < w.heap.size
  tab : TabAt 0 Lib.deBruijn64tab w
theorem TabIn.to {w w' : World} {B : Nat} (h : TabIn w) (hb : Below B w w') (hB : w.heap.size ≤ B) : TabIn w' :=
  ⟨Nat.lt_of_lt_of_le h.lt hb.size, fun j hj => (hb.cell (p := ⟨0, j, none⟩) (by have := h.lt; show 0 < B; omega)).trans (h.tab j hj)⟩

set_option maxHeartbeats 1000000 in
theorem tz_core (x k idx : Nat) (w : World) (hx0 : ((x : Int) == 0) = false)
    (key : IntKind.u64.wrap (bits BinOp.and IntKind.u64 (x : Int) (IntKind.u64.wrap (-(x : Int))) * 285870213051353865) / 288230376151711744 = (idx : Int))
    (hi : idx < 64) (hk : k < 64) (hcell : w.cell? ⟨0, idx, none⟩ = some (.int .u8 k)) :
    Calls Tryd.prog 70 #[.int .u64 x] w fun e w' => e = .returned (.int .i64 k) ∧ w = w' := by
  go_enter Tryd.func70, Tryd.ntmps70
  go_wp2_with (simp only [key])
  go_ret
  exact ⟨rfl, rfl⟩
theorem tz_any (x : Nat) (hx : x < 18446744073709551616) (hx0 : x ≠ 0) (w : World) (hT : TabIn w) :
    Calls Tryd.prog 70 #[.int .u64 x] w fun e w' => e = .returned (.int .i64 (Lib.ctz 64 x)) ∧ w = w' := by
  obtain ⟨hlow, hk⟩ := Lib.lowest_bit 64 x hx0 hx
  obtain ⟨hi, htab⟩ := Lib.deBruijn64_at _ hk
  have key := tz64_key x _ hx hx0 hlow
  refine tz_core x _ _ w (by simpa using hx0) key hi hk ?_
  rw [hT.tab _ (by simpa [Lib.deBruijn64tab] using hi), htab]

/-- A new slice that holds xs comes back; all below is kept. -/
def ListPost (w : World) (xs : List Int) (e : Ending) (w' : World) : Prop := ∃ v, e = .returned v ∧ w'.ownsRow w.heap.size 3 1 v xs.length (xs.map (Value.int .i64)) ∧ Below w.heap.size w w'

theorem bits_drop (q : Nat) (h0 : q ≠ 0) (h : q < 18446744073709551616) : bits .and .u64 (q : Int) (IntKind.u64.wrap ((q : Int) - 1)) = ((q &&& (q - 1) : Nat) : Int) := by
  have e : IntKind.u64.wrap ((q : Int) - 1) = ((q - 1 : Nat) : Int) := by rw [IntKind.wrap_u64]; omega
  rw [e]
  exact u64_and_nat _ _ h (by omega)

set_option maxHeartbeats 2000000 in
theorem list_any (m : Nat) (hm : m < 18446744073709551616) (w : World) (hT : TabIn w) :
    Calls Tryd.prog 39 #[.int .u64 m] w (ListPost w (els m)) := by
  have HT := Lib.hid hT
  clear hT
  obtain ⟨i0, hi, hz0, hz1, hz2⟩ := info_parts info_int
  go_enter Tryd.func39, Tryd.ntmps39
  go_wp2
  go_loopw [0, 3] (fun s v wr => ∃ (pre : List Int) (q : Nat), s = .int .u64 q ∧ q < 18446744073709551616 ∧ els m = pre ++ els q ∧ wr.ownsRow w.heap.size 3 1 v pre.length (pre.map (Value.int .i64)) ∧ Below w.heap.size w wr) (fun s _ _ => (intOf s).toNat)
  case atStart => exact ⟨[], m, rfl, hm, rfl, World.ownsRow_nil _ _ _ _, Below.refl _ _⟩
  case round =>
    obtain ⟨pre, q, rfl, hq, he, hown, hbr⟩ := hrel
    have HE := Lib.hid he
    clear he
    have HB := Lib.hid hbr
    clear hbr
    have hlen : pre.length ≤ 64 := by have := els_len m; rw [HE.out, List.length_append] at this; omega
    by_cases h0 : q = 0
    · subst h0
      go_wp2
      go_ret
      have e2 : els m = pre := by rw [HE.out, els_zero, List.append_nil]
      exact ⟨_, rfl, by rw [e2]; exact hown, HB.out⟩
    · have hne : ((q : Int) != 0) = true := by simpa using h0
      have hctz := (Lib.lowest_bit 64 q h0 hq).2
      have HX := Lib.hid (els_cons h0 hq)
      have HD := Lib.hid (drop_lt h0)
      have HBD := Lib.hid (bits_drop q h0 hq)
      have HC := Lib.hid (tz_any q hq h0 wr (HT.out.to HB.out (Nat.le_refl _)))
      clear h0
      go_wp2_with (first
        | (go_at_call 70; refine HC.out.mono ?_; rintro e w5 ⟨rfl, rfl⟩)
        | (at_builtin; refine wpList_append_own _ rfl _ _ 22 rfl w.heap.size 3 i0 (.int .i64 0) 1 8 Tryd.underlying22 hi hz0 hz1 hz2 rfl (by decide) _ _ _ rfl (hown.alloc _) ⟨wr.heap.size, 0, none⟩ 1 1 [.int .i64 (Lib.ctz 64 q)] rfl rfl ?c1 ?c2 ?c3 ?c4 ?c5 ?_))
      case c1 => exact cell_one_new _ _ _
      case c2 => simp [Value.oneCell']
      case c3 => unfold maxLen; omega
      case c4 => omega
      case c5 => have := HB.out.size; simp; omega
      intro v' w6 hown6 hgrow _
      have HG := Lib.hid hgrow
      clear hgrow
      go_wp2
      go_roundw
      case rel =>
        refine ⟨pre ++ [(Lib.ctz 64 q : Int)], q &&& (q - 1), ?_, ?_, ?_, ?_, ?_⟩
        · rw [HBD.out]
        · have := HD.out; omega
        · rw [HE.out, HX.out]; simp
        · simpa using hown6
        · have h6 : Below w.heap.size w (wr.alloc (.cells #[.int .i64 (Lib.ctz 64 q)] 3)) := HB.out.alloc HB.out.size _
          exact h6.grown HG.out h6.size (fun q hq => (hown.lt q hq).1)
      case measure =>
        rw [HBD.out]
        have := HD.out
        simp [intOf]; omega
end Go.Proofs.YtiaobanloakplaaDoor
end

/- after and operatorCode of package strips. -/
section
namespace Go.Proofs.YtiaobanloakplaaDoor
open Go.RowKit
set_option linter.unusedSimpArgs false
set_option linter.unusedVariables false
set_option maxRecDepth 100000

/-- The lists of an operator are sets of facts below n. -/
structure OpS (o : Opr) (n : Nat) : Prop where
  pre : IsS o.pre n
  add : IsS o.add n
  del : IsS o.del n
def aftW (n : Nat) (o : Opr) (s : List Int) : Nat := if subB o.pre s then mask (aftL n o.add o.del s) else 0
theorem aft_bits {n : Nat} (hn : n ≤ 24) {o : Opr} (ho : OpS o n) {s : List Int} (hs : IsS s n) :
    bits .or .u64 (bits .andNot .u64 (mask s : Int) (mask o.del : Int)) (mask o.add : Int) = (mask (aftL n o.add o.del s) : Int) := by
  have h24 : ∀ {l : List Int}, IsS l n → IsS l 24 := fun h => h.mono (by omega)
  have h1 := mask_lt64 (h24 hs)
  rw [u64_andNot_nat _ _ h1 (mask_lt64 (h24 ho.del)), u64_or_nat _ _ (Nat.lt_of_le_of_lt Nat.and_le_left h1) (mask_lt64 (h24 ho.add)), mask_aft hn ho.add ho.del hs]

set_option maxHeartbeats 2000000 in
theorem after_any (n : Nat) (hn : n ≤ 24) (o : Opr) (a1 a2 a3 : Option Addr) (c1 c2 c3 : Nat) (s : List Int) (w : World) (hO : OpS o n) (hs : IsS s n) (hV : OpV w w.heap.size o a1 a2 a3 c1 c2 c3) :
    Calls Tryd.prog 84 #[.agg #[.slice a1 o.pre.length c1, .slice a2 o.add.length c2, .slice a3 o.del.length c3, .int .i64 o.cost], .int .u64 (mask s)] w fun e w' => e = .returned (.tuple #[.int .u64 (aftW n o s), .bool (subB o.pre s)]) ∧ Below w.heap.size w w' := by
  have h24 : ∀ {l : List Int}, IsS l n → IsS l 24 := fun h => h.mono (by omega)
  have hV1 : OpV (w.alloc (.cells #[.slice a1 o.pre.length c1, .slice a2 o.add.length c2, .slice a3 o.del.length c3, .int .i64 o.cost] 79)) (w.alloc (.cells #[.slice a1 o.pre.length c1, .slice a2 o.add.length c2, .slice a3 o.del.length c3, .int .i64 o.cost] 79)).heap.size o a1 a2 a3 c1 c2 c3 := hV.to ((Below.refl _ _).alloc (Nat.le_refl _) _) (by simp)
  have HV := Lib.hid hV1
  clear hV hV1
  have HP := Lib.hid (h24 hO.pre)
  have HA := Lib.hid (h24 hO.add)
  have HD := Lib.hid (h24 hO.del)
  have HS := Lib.hid (h24 hs)
  have HB := Lib.hid (aft_bits hn hO hs)
  clear hO hs h24
  cases hsub : subB o.pre s
  · have HW := Lib.hid (show aftW n o s = 0 by simp [aftW, hsub])
    go_enter Tryd.func84, Tryd.ntmps84
    go_wp2_with (first
      | (go_at_call 40; refine (setOf_any _ _ _ _ HP.out HV.out.pre.nums).mono ?_; rintro e w' ⟨rfl, rfl⟩)
      | (go_at_call 65; refine (contains_any _ _ _ HS.out HP.out).mono ?_; rintro e w' ⟨rfl, rfl⟩))
    go_ret2
    exact ⟨ret_val (by rw [HW.out]; rfl), by go_grown⟩
  · have HW := Lib.hid (show aftW n o s = mask (aftL n o.add o.del s) by simp [aftW, hsub])
    go_enter Tryd.func84, Tryd.ntmps84
    go_wp2_with (first
      | (go_at_call 40; refine (setOf_any _ _ _ _ HP.out HV.out.pre.nums).mono ?_; rintro e w' ⟨rfl, rfl⟩)
      | (go_at_call 65; refine (contains_any _ _ _ HS.out HP.out).mono ?_; rintro e w' ⟨rfl, rfl⟩))
    go_quiet (first
      | (go_at_call 40; (with_reducible refine quiet_same (setOf_any a3 c3 o.del _ HD.out ?_)); exact HV.out.del.nums)
      | (go_at_call 40; (with_reducible refine quiet_same (setOf_any a2 c2 o.add _ HA.out ?_)); exact HV.out.add.nums))
    go_wp2
    go_ret2
    exact ⟨(show Ending.returned (.tuple #[.int .u64 _, .bool true]) = _ from by rw [HB.out, HW.out]), belowN (by go_grown) _⟩

/-- The code of an operator of a task with n facts. -/
def opCode (n : Int) (o : Opr) : Int :=
  if !setB o.pre n || !setB o.add n || !setB o.del n || !disB o.add o.del then 5 else if o.cost < 0 ∨ 100 < o.cost then 3 else 0
theorem opCode_s {n : Int} {o : Opr} (h : (setB o.pre n && setB o.add n && setB o.del n) = false) : opCode n o = 5 := by
  unfold opCode
  rw [if_pos]
  revert h
  cases setB o.pre n <;> cases setB o.add n <;> cases setB o.del n <;> simp
theorem opCode_d {n : Int} {o : Opr} (h : disB o.add o.del = false) : opCode n o = 5 := by simp [opCode, h]
theorem opCode_c {n : Int} {o : Opr} (h1 : setB o.pre n = true) (h2 : setB o.add n = true) (h3 : setB o.del n = true) (h4 : disB o.add o.del = true) : opCode n o = if o.cost < 0 ∨ 100 < o.cost then 3 else 0 := by simp [opCode, h1, h2, h3, h4]
theorem opCode_zero {n : Nat} {o : Opr} (h : opCode n o = 0) : OpS o n ∧ disB o.add o.del = true ∧ 0 ≤ o.cost ∧ o.cost ≤ 100 := by
  unfold opCode at h
  split at h
  · cases h
  · rename_i hn
    split at h
    · cases h
    · rename_i hc
      simp at hn
      exact ⟨⟨setB_iff.1 hn.1.1.1, setB_iff.1 hn.1.1.2, setB_iff.1 hn.1.2⟩, hn.2, by omega, by omega⟩

theorem and_bits {a b : List Int} (ha : IsS a 24) (hb : IsS b 24) : (bits .and .u64 (mask a : Int) (mask b : Int) == 0) = disB a b := by
  rw [u64_and_nat _ _ (mask_lt64 ha) (mask_lt64 hb), zero_cast, and_zero ha hb]
theorem and_bits_ne {a b : List Int} (ha : IsS a 24) (hb : IsS b 24) : (bits .and .u64 (mask a : Int) (mask b : Int) != 0) = !disB a b := by
  rw [bne, and_bits ha hb]

set_option maxHeartbeats 4000000 in
theorem opCode_any (n : Int) (hn : n ≤ 24) (o : Opr) (a1 a2 a3 : Option Addr) (c1 c2 c3 : Nat) (w : World) (hV : OpV w w.heap.size o a1 a2 a3 c1 c2 c3) :
    Calls Tryd.prog 85 #[.agg #[.slice a1 o.pre.length c1, .slice a2 o.add.length c2, .slice a3 o.del.length c3, .int .i64 o.cost], .int .i64 n] w fun e w' => e = .returned (.int .i64 (opCode n o)) ∧ Below w.heap.size w w' := by
  have hV1 : OpV (w.alloc (.cells #[.slice a1 o.pre.length c1, .slice a2 o.add.length c2, .slice a3 o.del.length c3, .int .i64 o.cost] 79)) (w.alloc (.cells #[.slice a1 o.pre.length c1, .slice a2 o.add.length c2, .slice a3 o.del.length c3, .int .i64 o.cost] 79)).heap.size o a1 a2 a3 c1 c2 c3 := hV.to ((Below.refl _ _).alloc (Nat.le_refl _) _) (by simp)
  have I1 := Lib.hid (isSet_any a1 c1 o.pre n _ hn hV1.pre.nums hV1.pre.len)
  have I2 := Lib.hid (isSet_any a2 c2 o.add n _ hn hV1.add.nums hV1.add.len)
  have I3 := Lib.hid (isSet_any a3 c3 o.del n _ hn hV1.del.nums hV1.del.len)
  have HV := Lib.hid hV1
  clear hV hV1
  cases h1 : setB o.pre n
  case false =>
    have HQ := Lib.hid (opCode_s (n := n) (o := o) (by simp [h1]))
    go_enter Tryd.func85, Tryd.ntmps85
    go_wp2_with (go_at_call 53; (with_reducible refine I1.out.mono ?_); rintro e w' ⟨rfl, rfl⟩)
    go_ret
    exact ⟨ret_int HQ.out.symm, by go_grown⟩
  cases h2 : setB o.add n
  case false =>
    have HQ := Lib.hid (opCode_s (n := n) (o := o) (by simp [h2]))
    go_enter Tryd.func85, Tryd.ntmps85
    go_wp2_with (first
      | (go_at_call 53; (with_reducible refine I1.out.mono ?_); rintro e w' ⟨rfl, rfl⟩)
      | (go_at_call 53; (with_reducible refine I2.out.mono ?_); rintro e w' ⟨rfl, rfl⟩))
    go_ret
    exact ⟨ret_int HQ.out.symm, by go_grown⟩
  cases h3 : setB o.del n
  case false =>
    have HQ := Lib.hid (opCode_s (n := n) (o := o) (by simp [h3]))
    go_enter Tryd.func85, Tryd.ntmps85
    go_wp2_with (first
      | (go_at_call 53; (with_reducible refine I1.out.mono ?_); rintro e w' ⟨rfl, rfl⟩)
      | (go_at_call 53; (with_reducible refine I2.out.mono ?_); rintro e w' ⟨rfl, rfl⟩)
      | (go_at_call 53; (with_reducible refine I3.out.mono ?_); rintro e w' ⟨rfl, rfl⟩))
    go_ret
    exact ⟨ret_int HQ.out.symm, by go_grown⟩
  have hA := (setB_iff.1 h2).mono hn
  have hD := (setB_iff.1 h3).mono hn
  have hne := and_bits_ne hA hD
  have HA := Lib.hid hA
  have HD := Lib.hid hD
  clear hA hD
  cases h4 : disB o.add o.del
  case false =>
    have HQ := Lib.hid (opCode_d (n := n) h4)
    rw [h4] at hne
    clear h4
    go_enter Tryd.func85, Tryd.ntmps85
    go_wp2_with (first
      | (go_at_call 53; (with_reducible refine I1.out.mono ?_); rintro e w' ⟨rfl, rfl⟩)
      | (go_at_call 53; (with_reducible refine I2.out.mono ?_); rintro e w' ⟨rfl, rfl⟩)
      | (go_at_call 53; (with_reducible refine I3.out.mono ?_); rintro e w' ⟨rfl, rfl⟩))
    go_quiet (first
      | (go_at_call 40; (with_reducible refine quiet_same (setOf_any a3 c3 o.del _ HD.out ?_)); exact HV.out.del.nums)
      | (go_at_call 40; (with_reducible refine quiet_same (setOf_any a2 c2 o.add _ HA.out ?_)); exact HV.out.add.nums))
    go_wp2
    go_ret
    exact ⟨ret_int HQ.out.symm, belowN (by go_grown) _⟩
  have HQ := opCode_c h1 h2 h3 h4
  rw [h4] at hne
  clear h4
  rcases Int.lt_or_le o.cost 0 with g1 | g1
  case' inl =>
    rw [if_pos (.inl g1)] at HQ
  case' inr =>
    rcases Int.lt_or_le 100 o.cost with g2 | g2
  case' inr.inl =>
    rw [if_pos (.inr g2)] at HQ
  case' inr.inr =>
    rw [if_neg (by omega)] at HQ
  all_goals
    have HQ2 := Lib.hid HQ
    clear HQ
    go_enter Tryd.func85, Tryd.ntmps85
    go_wp2_with (first
      | (go_at_call 53; (with_reducible refine I1.out.mono ?_); rintro e w' ⟨rfl, rfl⟩)
      | (go_at_call 53; (with_reducible refine I2.out.mono ?_); rintro e w' ⟨rfl, rfl⟩)
      | (go_at_call 53; (with_reducible refine I3.out.mono ?_); rintro e w' ⟨rfl, rfl⟩))
    go_quiet (first
      | (go_at_call 40; (with_reducible refine quiet_same (setOf_any a3 c3 o.del _ HD.out ?_)); exact HV.out.del.nums)
      | (go_at_call 40; (with_reducible refine quiet_same (setOf_any a2 c2 o.add _ HA.out ?_)); exact HV.out.add.nums))
    go_wp2
    go_ret
    exact ⟨ret_int HQ2.out.symm, belowN (by go_grown) _⟩
end Go.Proofs.YtiaobanloakplaaDoor
end

/- Validate of package strips. -/
section
namespace Go.Proofs.YtiaobanloakplaaDoor
open Go.RowKit
set_option linter.unusedSimpArgs false
set_option linter.unusedVariables false
set_option maxRecDepth 100000

def opF (x : Tsk) (k : Nat) : Int := opCode x.n (opr x.ops k)
def tkF (x : Tsk) : Int × Int :=
  if x.n < 0 ∨ 24 < x.n then (3, -1) else if setB x.init x.n = false then (5, -2) else if setB x.goal x.n = false then (5, -3) else if 40 < x.ops.length then (2, -1) else firstF (opF x) natPos x.ops.length
theorem tkF_loop {x : Tsk} (h0 : 0 ≤ x.n) (h1 : x.n ≤ 24) (h2 : setB x.init x.n = true) (h3 : setB x.goal x.n = true) (h4 : x.ops.length ≤ 40) : tkF x = firstF (opF x) natPos x.ops.length := by
  unfold tkF
  rw [if_neg (by omega), if_neg (by simp [h2]), if_neg (by simp [h3]), if_neg (by omega)]
/-- A valid task. -/
structure Val (x : Tsk) (n : Nat) : Prop where
  eq : x.n = (n : Int)
  le : n ≤ 24
  init : IsS x.init n
  goal : IsS x.goal n
  len : x.ops.length ≤ 40
  ops : ∀ k, k < x.ops.length → OpS (opr x.ops k) n ∧ disB (opr x.ops k).add (opr x.ops k).del = true ∧ 0 ≤ (opr x.ops k).cost ∧ (opr x.ops k).cost ≤ 100
theorem firstF_zero {code pos : Nat → Int} {n : Nat} (h : (firstF code pos n).1 = 0) : ∀ j, j < n → code j = 0 := by
  intro j hj
  unfold firstF at h
  cases e : (List.range n).find? (fun i => code i != 0) with
  | some i =>
    rw [e] at h
    have := List.find?_some e
    simp at this
    exact absurd h this
  | none =>
    rw [List.find?_eq_none] at e
    simpa using e j (by simpa using hj)
theorem tkF_val {x : Tsk} (h : (tkF x).1 = 0) : Val x x.n.toNat := by
  unfold tkF at h
  split at h
  · cases h
  split at h
  · cases h
  split at h
  · cases h
  split at h
  · cases h
  rename_i h0 h2 h3 h4
  have e : ((x.n.toNat : Nat) : Int) = x.n := by omega
  simp at h2 h3
  refine ⟨e.symm, by omega, by rw [e]; exact setB_iff.1 h2, by rw [e]; exact setB_iff.1 h3, by omega, fun k hk => ?_⟩
  have := firstF_zero h k hk
  unfold opF at this
  rw [← e] at this
  exact opCode_zero this
theorem tkF_fst {x : Tsk} (h : (tkF x).1 = 0) : tkF x = (0, 0) := by
  have hv := h
  unfold tkF at h ⊢
  split at h
  · cases h
  split at h
  · cases h
  split at h
  · cases h
  split at h
  · cases h
  rename_i h0 h2 h3 h4
  rw [if_neg h0, if_neg h2, if_neg h3, if_neg h4, firstF_miss (firstF_zero h)]

set_option maxHeartbeats 4000000 in
theorem validate_any (x : Tsk) (w : World) (hX : TskIn w w.heap.size x) :
    Calls Tryd.prog 66 #[.agg #[.int .i64 x.n, .slice x.ai x.init.length x.ci, .slice x.ag x.goal.length x.cg, .slice x.ao x.ops.length x.co]] w fun e w' => e = .returned (faultV (tkF x)) ∧ Below w.heap.size w w' := by
  have hlen := hX.len
  unfold maxLen at hlen
  have hB2 : Below w.heap.size w ((w.alloc (.cells #[.int .i64 x.n, .slice x.ai x.init.length x.ci, .slice x.ag x.goal.length x.cg, .slice x.ao x.ops.length x.co] 25)).alloc (.cells #[.int .i64 0, .int .i64 0] 28)) := by go_grown
  have hX2 := hX.to hB2 hB2.size
  have HX := Lib.hid (fun (W : World) (h : Below w.heap.size w W) => hX.to h h.size)
  clear hX
  by_cases hA : x.n < 0 ∨ 24 < x.n
  · have H := Lib.hid (show tkF x = (3, -1) by simp [tkF, hA])
    clear hX2 hB2
    rcases hA with hA | hA
    · go_enter Tryd.func66, Tryd.ntmps66
      go_wp2
      go_returns
      exact ⟨ret_val (by rw [H.out]), by go_grown⟩
    · have hA0 : 0 ≤ x.n := by omega
      go_enter Tryd.func66, Tryd.ntmps66
      go_wp2
      go_returns
      exact ⟨ret_val (by rw [H.out]), by go_grown⟩
  obtain ⟨h0, h24⟩ : 0 ≤ x.n ∧ x.n ≤ 24 := by omega
  have I1 := Lib.hid (isSet_any x.ai x.ci x.init x.n _ h24 hX2.init.nums hX2.init.len)
  have I2 := Lib.hid (isSet_any x.ag x.cg x.goal x.n _ h24 hX2.goal.nums hX2.goal.len)
  clear hX2 hB2
  cases h2 : setB x.init x.n
  case false =>
    have H := Lib.hid (show tkF x = (5, -2) by simp [tkF, hA, h2])
    clear hA
    go_enter Tryd.func66, Tryd.ntmps66
    go_wp2_with (go_at_call 53; (with_reducible refine I1.out.mono ?_); rintro e w' ⟨rfl, rfl⟩)
    go_returns
    exact ⟨ret_val (by rw [H.out]), by go_grown⟩
  cases h3 : setB x.goal x.n
  case false =>
    have H := Lib.hid (show tkF x = (5, -3) by simp [tkF, hA, h2, h3])
    clear hA
    go_enter Tryd.func66, Tryd.ntmps66
    go_wp2_with (first
      | (go_at_call 53; (with_reducible refine I1.out.mono ?_); rintro e w' ⟨rfl, rfl⟩)
      | (go_at_call 53; (with_reducible refine I2.out.mono ?_); rintro e w' ⟨rfl, rfl⟩))
    go_returns
    exact ⟨ret_val (by rw [H.out]), by go_grown⟩
  by_cases h4 : 40 < x.ops.length
  · have H := Lib.hid (show tkF x = (2, -1) by simp [tkF, hA, h2, h3, h4])
    clear hA
    go_enter Tryd.func66, Tryd.ntmps66
    go_wp2_with (first
      | (go_at_call 53; (with_reducible refine I1.out.mono ?_); rintro e w' ⟨rfl, rfl⟩)
      | (go_at_call 53; (with_reducible refine I2.out.mono ?_); rintro e w' ⟨rfl, rfl⟩))
    go_returns
    exact ⟨ret_val (by rw [H.out]), by go_grown⟩
  have H := Lib.hid (tkF_loop h0 h24 h2 h3 (by omega))
  have h4' : x.ops.length ≤ 40 := by omega
  clear hA h4
  go_enter Tryd.func66, Tryd.ntmps66
  go_wp2_with (first
    | (go_at_call 53; (with_reducible refine I1.out.mono ?_); rintro e w' ⟨rfl, rfl⟩)
    | (go_at_call 53; (with_reducible refine I2.out.mono ?_); rintro e w' ⟨rfl, rfl⟩))
  clear I1 I2 h2 h3
  go_loopw [41] (fun i wr => ∃ k : Nat, k ≤ x.ops.length ∧ i = .int .i64 k ∧ Below w.heap.size w wr ∧ TBox wr w.heap.size x ∧ Two wr (w.heap.size + 1) (.int .i64 0) (.int .i64 0) ∧ ∀ j, j < k → opF x j = 0) (fun i _ => x.ops.length - (intOf i).toNat)
  case atStart => exact ⟨0, by omega, rfl, by go_grown, ⟨by simp; omega, by simp, by simp, by simp, by simp⟩, ⟨by simp, by simp, by simp, by simp, by simp⟩, by omega⟩
  case round =>
    obtain ⟨k, hk, rfl, hbw, hbox, htwo, hj⟩ := hrel
    have HJ := Lib.hid hj
    clear hj
    have HB := Lib.hid hbw
    clear hbw
    have HT := Lib.hid htwo
    clear htwo
    have HBX := Lib.hid hbox
    clear hbox
    by_cases hlt : k < x.ops.length
    · obtain ⟨b, p, a1, a2, a3, c1, c2, c3, hao, hbl, ⟨q0, q1, q2, q3⟩, hOV⟩ := (HX.out _ HB.out).ops.at_ hlt
      rw [hao]
      obtain ⟨t4, t0, t1, t2, t3⟩ := HBX.out
      have hOV1 : OpV (wr.alloc (.cells #[.slice a1 (opr x.ops k).pre.length c1, .slice a2 (opr x.ops k).add.length c2, .slice a3 (opr x.ops k).del.length c3, .int .i64 (opr x.ops k).cost] 79)) (wr.alloc (.cells #[.slice a1 (opr x.ops k).pre.length c1, .slice a2 (opr x.ops k).add.length c2, .slice a3 (opr x.ops k).del.length c3, .int .i64 (opr x.ops k).cost] 79)).heap.size (opr x.ops k) a1 a2 a3 c1 c2 c3 := hOV.to ((Below.refl _ _).alloc (Nat.le_refl _) _) (by simp)
      have HC := Lib.hid (opCode_any x.n h24 (opr x.ops k) a1 a2 a3 c1 c2 c3 _ hOV1)
      clear hOV hOV1
      have h2 : ∀ w', Below (wr.heap.size + 1) (wr.alloc (.cells #[.slice a1 (opr x.ops k).pre.length c1, .slice a2 (opr x.ops k).add.length c2, .slice a3 (opr x.ops k).del.length c3, .int .i64 (opr x.ops k).cost] 79)) w' → Below w.heap.size w w' ∧ TBox w' w.heap.size x ∧ Two w' (w.heap.size + 1) (.int .i64 0) (.int .i64 0) := fun w' h => by
        have e1 := HB.out.size
        have e2 := HT.out.lt
        have e3 : Below wr.heap.size wr w' := ((Below.refl _ _).alloc (Nat.le_refl _) _).trans (h.mono (by omega))
        exact ⟨HB.out.trans (e3.mono e1), HBX.out.to e3 t4, HT.out.to e3 e2⟩
      have H2 := Lib.hid h2
      clear h2
      by_cases hcode : opF x k = 0
      · have H0 := Lib.hid hcode
        have hne : (opCode x.n (opr x.ops k) != 0) = false := by simpa [opF] using hcode
        clear hcode
        go_wp2_with (go_at_call 85; (with_reducible refine HC.out.mono ?_); rintro e w' ⟨rfl, hbw⟩)
        rw [World.size_alloc] at hbw
        go_roundw
        case rel => exact ⟨k + 1, by omega, by go_num, (H2.out _ hbw).1, (H2.out _ hbw).2.1, (H2.out _ hbw).2.2, code_step HJ.out H0.out⟩
        case measure => simp [intOf]; omega
      · have H0 := Lib.hid hcode
        have hne : (opCode x.n (opr x.ops k) != 0) = true := by simpa [opF] using hcode
        clear hcode
        go_wp2_with (go_at_call 85; (with_reducible refine HC.out.mono ?_); rintro e w' ⟨rfl, hbw⟩; rw [World.size_alloc] at hbw; obtain ⟨_, k0, k1, f0, f1⟩ := (H2.out _ hbw).2.2)
        refine post_fault (g := w.heap.size + 1) (x := .int .i64 (opCode x.n (opr x.ops k))) (y := .int .i64 k) Tryd.results66 rfl ((H2.out _ hbw).2.2.set _ _) ?_
        exact ⟨ret_val (by rw [H.out, firstF_hit hlt H0.out HJ.out]; rfl), ((H2.out _ hbw).1.setCell (by simp) _).setCell (by simp) _⟩
    · have hge : ¬ ((k : Int) < x.ops.length) := by omega
      obtain ⟨_, c0, c1, f0, f1⟩ := HT.out
      go_wp2
      refine post_fault (g := w.heap.size + 1) (x := .int .i64 0) (y := .int .i64 0) Tryd.results66 rfl (HT.out.set _ _) ?_
      exact ⟨ret_val (by rw [H.out, firstF_miss (fun j hj => HJ.out j (by omega))]), (HB.out.setCell (by simp) _).setCell (by simp) _⟩
end Go.Proofs.YtiaobanloakplaaDoor
end
