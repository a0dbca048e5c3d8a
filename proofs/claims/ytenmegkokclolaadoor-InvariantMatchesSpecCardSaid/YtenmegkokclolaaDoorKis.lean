/- IsSet of the reference; TrailingZeros64; list and after of package strips. -/
import Derived.Test.YtenmegkokclolaaDoorKlf
import Derived.Shelf.Spec.TrailingZeros
namespace Go.Proofs.YtenmegkokclolaaDoor
open Go.RowKit
set_option linter.unusedSimpArgs false
set_option linter.unusedVariables false
set_option maxRecDepth 100000

set_option maxHeartbeats 2000000 in
theorem isSetR_any (A : Option Addr) (c : Nat) (l : List Int) (n : Int) (w : World) (hn0 : 0 ≤ n) (hn : n ≤ 24) (hL : Nums w w.heap.size A l) (hlen : l.length ≤ maxLen) :
    Calls Tryd.prog 8 #[.slice A l.length c, .int .i64 n] w fun e w' => e = .returned (.bool (setB l n)) ∧ Below w.heap.size w w' := by
  unfold maxLen at hlen
  have HL := Lib.hid hL
  clear hL
  have hnw : IntKind.i64.wrap (n - 1) = n - 1 := IntWalk.i64_in _ (by omega)
  go_enter Tryd.func8, Tryd.ntmps8
  go_wp2
  go_loopw [5] (fun i wr => ∃ k : Nat, k ≤ l.length ∧ i = .int .i64 k ∧ Below w.heap.size w wr ∧ ∀ j, j < k → okAt l n j = true) (fun i _ => l.length - (intOf i).toNat)
  case atStart => exact ⟨0, by omega, rfl, Below.refl _ _, by omega⟩
  case round =>
    obtain ⟨k, hk, rfl, hbw, hj⟩ := hrel
    have HJ := Lib.hid hj
    clear hj
    have HB := Lib.hid hbw
    clear hbw
    by_cases hlt : k < l.length
    · obtain ⟨b, o, rfl, _, hc⟩ := (HL.out.to HB.out (Nat.le_refl _)).at_ hlt
      cases hi : inB (ix l k) 0 (n - 1)
      · have HQ := Lib.hid (setB_bad hlt (okAt_in hi))
        go_wp2
        go_quiet ((go_at_call 18; exact quiet_same (in_any _ _ _ _)))
        go_wp2
        go_ret
        exact ⟨ret_bool HQ.out.symm, belowN HB.out _⟩
      · cases k with
        | zero =>
          have HQ := Lib.hid (okAt_first hi)
          rw [Nat.add_zero] at hc
          go_wp2
          go_quiet ((go_at_call 18; exact quiet_same (in_any _ _ _ _)))
          go_wp2
          go_roundw
          case rel => exact ⟨1, by omega, by go_num, belowN HB.out _, okAt_step HJ.out HQ.out⟩
          case measure => simp [intOf]; omega
        | succ k =>
          obtain ⟨b2, o2, e2, _, hc2⟩ := (HL.out.to HB.out (Nat.le_refl _)).at_ (show k < l.length by omega)
          injection e2 with e2
          injection e2 with e3 e4
          subst e3 e4
          have hpos : decide (0 < ((k + 1 : Nat) : Int)) = true := decide_eq_true (by omega)
          have hk1 : ((k + 1 : Nat) : Int) - 1 = (k : Int) := by omega
          rcases Int.lt_or_le (ix l k) (ix l (k + 1)) with h1 | h1
          · have HQ := Lib.hid (okAt_next hi h1)
            have h1' : decide (ix l (k + 1) ≤ ix l k) = false := by simpa using h1
            go_wp2
            go_quiet ((go_at_call 18; exact quiet_same (in_any _ _ _ _)))
            go_wp2
            go_roundw
            case rel => exact ⟨k + 1 + 1, by omega, by go_num, belowN HB.out _, okAt_step HJ.out HQ.out⟩
            case measure => simp [intOf]; omega
          · have HQ := Lib.hid (setB_bad hlt (okAt_not (n := n) h1))
            have h1' : decide (ix l (k + 1) ≤ ix l k) = true := by simpa using h1
            go_wp2
            go_quiet ((go_at_call 18; exact quiet_same (in_any _ _ _ _)))
            go_wp2
            go_ret
            exact ⟨ret_bool HQ.out.symm, belowN HB.out _⟩
    · have hge : ¬ ((k : Int) < l.length) := by omega
      go_wp2
      go_ret
      exact ⟨ret_bool (setB_good (fun j hj => HJ.out j (by omega))).symm, HB.out⟩
theorem run_u64 (m : Nat) (hm : m < 18446744073709551616) : IntKind.u64.wrap (m : Int) = m := by rw [IntKind.wrap_u64]; omega
/-- The table of math/bits stands in its variable. -/
structure TabIn (w : World) : Prop where
  lt : 0 < w.heap.size
  tab : TabAt 0 Lib.deBruijn64tab w
theorem TabIn.to {w w' : World} {B : Nat} (h : TabIn w) (hb : Below B w w') (hB : w.heap.size ≤ B) : TabIn w' :=
  ⟨Nat.lt_of_lt_of_le h.lt hb.size, fun j hj => (hb.cell (p := ⟨0, j, none⟩) (by have := h.lt; show 0 < B; omega)).trans (h.tab j hj)⟩

set_option maxHeartbeats 1000000 in
theorem tz_core (x k idx : Nat) (w : World) (hx0 : ((x : Int) == 0) = false)
    (key : IntKind.u64.wrap (bits BinOp.and IntKind.u64 (x : Int) (IntKind.u64.wrap (-(x : Int))) * 285870213051353865) / 288230376151711744 = (idx : Int))
    (hi : idx < 64) (hk : k < 64) (hcell : w.cell? ⟨0, idx, none⟩ = some (.int .u8 k)) :
    Calls Tryd.prog 50 #[.int .u64 x] w fun e w' => e = .returned (.int .i64 k) ∧ w = w' := by
  go_enter Tryd.func50, Tryd.ntmps50
  go_wp2_with (simp only [key])
  go_ret
  exact ⟨rfl, rfl⟩
theorem tz_any (x : Nat) (hx : x < 18446744073709551616) (hx0 : x ≠ 0) (w : World) (hT : TabIn w) :
    Calls Tryd.prog 50 #[.int .u64 x] w fun e w' => e = .returned (.int .i64 (Lib.ctz 64 x)) ∧ w = w' := by
  obtain ⟨hlow, hk⟩ := Lib.lowest_bit 64 x hx0 hx
  obtain ⟨hi, htab⟩ := Lib.deBruijn64_at _ hk
  have key := tz64_key x _ hx hx0 hlow
  refine tz_core x _ _ w (by simpa using hx0) key hi hk ?_
  rw [hT.tab _ (by simpa [Lib.deBruijn64tab] using hi), htab]

/-- A new slice that holds xs comes back; all below is kept. -/
def ListPost (w : World) (xs : List Int) (e : Ending) (w' : World) : Prop := ∃ v, e = .returned v ∧ w'.ownsRow w.heap.size 3 1 v xs.length (xs.map (Value.int .i64)) ∧ Below w.heap.size w w'

theorem bits_drop (q : Nat) (h0 : q ≠ 0) (h : q < 18446744073709551616) : bits .and .u64 (q : Int) (IntKind.u64.wrap ((q : Int) - 1)) = ((q &&& (q - 1) : Nat) : Int) := by
  have e : IntKind.u64.wrap ((q : Int) - 1) = ((q - 1 : Nat) : Int) := by rw [IntKind.wrap_u64]; omega
  rw [e]
  exact u64_and_nat _ _ h (by omega)

set_option maxHeartbeats 2000000 in
theorem list_any (m : Nat) (hm : m < 18446744073709551616) (w : World) (hT : TabIn w) :
    Calls Tryd.prog 31 #[.int .u64 m] w (ListPost w (els m)) := by
  have HT := Lib.hid hT
  clear hT
  obtain ⟨i0, hi, hz0, hz1, hz2⟩ := info_parts info_int
  go_enter Tryd.func31, Tryd.ntmps31
  go_wp2
  go_loopw [0, 3] (fun s v wr => ∃ (pre : List Int) (q : Nat), s = .int .u64 q ∧ q < 18446744073709551616 ∧ els m = pre ++ els q ∧ wr.ownsRow w.heap.size 3 1 v pre.length (pre.map (Value.int .i64)) ∧ Below w.heap.size w wr) (fun s _ _ => (intOf s).toNat)
  case atStart => exact ⟨[], m, rfl, hm, rfl, World.ownsRow_nil _ _ _ _, Below.refl _ _⟩
  case round =>
    obtain ⟨pre, q, rfl, hq, he, hown, hbr⟩ := hrel
    have HE := Lib.hid he
    clear he
    have HB := Lib.hid hbr
    clear hbr
    have hlen : pre.length ≤ 64 := by have := els_len m; rw [HE.out, List.length_append] at this; omega
    by_cases h0 : q = 0
    · subst h0
      go_wp2
      go_ret
      have e2 : els m = pre := by rw [HE.out, els_zero, List.append_nil]
      exact ⟨_, rfl, by rw [e2]; exact hown, HB.out⟩
    · have hne : ((q : Int) != 0) = true := by simpa using h0
      have hctz := (Lib.lowest_bit 64 q h0 hq).2
      have HX := Lib.hid (els_cons h0 hq)
      have HD := Lib.hid (drop_lt h0)
      have HBD := Lib.hid (bits_drop q h0 hq)
      have HC := Lib.hid (tz_any q hq h0 wr (HT.out.to HB.out (Nat.le_refl _)))
      clear h0
      go_wp2_with (first
        | (go_at_call 50; refine HC.out.mono ?_; rintro e w5 ⟨rfl, rfl⟩)
        | (at_builtin; refine wpList_append_own _ rfl _ _ 22 rfl w.heap.size 3 i0 (.int .i64 0) 1 8 Tryd.underlying22 hi hz0 hz1 hz2 rfl (by decide) _ _ _ rfl (hown.alloc _) ⟨wr.heap.size, 0, none⟩ 1 1 [.int .i64 (Lib.ctz 64 q)] rfl rfl ?c1 ?c2 ?c3 ?c4 ?c5 ?_))
      case c1 => exact cell_one_new _ _ _
      case c2 => simp [Value.oneCell']
      case c3 => unfold maxLen; omega
      case c4 => omega
      case c5 => have := HB.out.size; simp; omega
      intro v' w6 hown6 hgrow _
      have HG := Lib.hid hgrow
      clear hgrow
      go_wp2
      go_roundw
      case rel =>
        refine ⟨pre ++ [(Lib.ctz 64 q : Int)], q &&& (q - 1), ?_, ?_, ?_, ?_, ?_⟩
        · rw [HBD.out]
        · have := HD.out; omega
        · rw [HE.out, HX.out]; simp
        · simpa using hown6
        · have h6 : Below w.heap.size w (wr.alloc (.cells #[.int .i64 (Lib.ctz 64 q)] 3)) := HB.out.alloc HB.out.size _
          exact h6.grown HG.out h6.size (fun q hq => (hown.lt q hq).1)
      case measure =>
        rw [HBD.out]
        have := HD.out
        simp [intOf]; omega
end Go.Proofs.YtenmegkokclolaaDoor

