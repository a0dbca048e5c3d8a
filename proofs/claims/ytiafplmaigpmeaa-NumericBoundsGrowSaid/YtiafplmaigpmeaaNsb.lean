/- SameBounds of the reference. -/
import Derived.Test.YtiafplmaigpmeaaNex
import Derived.ChangeKeysEq
namespace Go.Proofs.Ytiafplmaigpmeaa
open Go.RowKit
set_option linter.unusedSimpArgs false
set_option linter.unusedVariables false
set_option maxRecDepth 100000

theorem ne_arr (W : World) (a b c d : Int) : (binOp .neq 50 (.agg #[.int .i64 a, .int .i64 b]) (.agg #[.int .i64 c, .int .i64 d])).run Try.prog W = .ok (.bool (!((a == c) && (b == d)))) W := by
  have hu : Try.prog.underlying 50 = some (.array 2 3) := by kernel_rfl
  obtain ⟨i0, hi, _⟩ := info_parts info_int
  have hc : Try.prog.cellsOf 3 = 1 := by kernel_rfl
  have hp : Try.prog.plainKey 3 = true := by kernel_rfl
  have h := run_equalIn_array (w := W) 9999 #[.int .i64 a, .int .i64 b] #[.int .i64 c, .int .i64 d] hu hi
  have hr : List.range 2 = [0, 1] := by decide
  have hq : (Op.eqItems 9999 3 1 #[.int .i64 a, .int .i64 b] #[.int .i64 c, .int .i64 d] [0, 1]).run Try.prog W = .ok ((a == c) && (b == d)) W := by
    have e0 : ∀ (x y : Int) (W : World), (part 3 #[.int .i64 x, .int .i64 y] (0 * 1)).run Try.prog W = .ok (.int .i64 x) W := fun x y W => run_part_plain W hp rfl
    have e1 : ∀ (x y : Int) (W : World), (part 3 #[.int .i64 x, .int .i64 y] (1 * 1)).run Try.prog W = .ok (.int .i64 y) W := fun x y W => run_part_plain W hp rfl
    have e2 : ∀ (x y : Int) (W : World), (Op.equalIn 9999 3 (.int .i64 x) (.int .i64 y)).run Try.prog W = .ok (x == y) W := fun x y W => run_equalIn_int W 9998 3 .i64 .i64 x y Try.underlying3
    unfold Op.eqItems
    simp only [Sem.run_bind, e0, e2, Result.andThen_ok]
    cases hac : (a == c)
    · simp
    · unfold Op.eqItems
      simp only [Sem.run_bind, e1, e2, Result.andThen_ok, Bool.not_true, Bool.false_eq_true, if_false]
      cases hbd : (b == d)
      · simp
      · simp [Op.eqItems]
  rw [hc, hr, hq] at h
  simp [binOp, Op.equal, Op.maxDepth, h]
theorem bds_ne {a b : List (Int × Int)} (h : a.length ≠ b.length) : decide (a = b) = false := decide_eq_false (fun e => h (by rw [e]))
theorem bds_bad {a b : List (Int × Int)} {k : Nat} (h : prx a k ≠ prx b k) : decide (a = b) = false := decide_eq_false (fun e => h (by rw [e]))
theorem bds_good {a b : List (Int × Int)} (hl : a.length = b.length) (h : ∀ k, k < a.length → prx a k = prx b k) : decide (a = b) = true := by
  refine decide_eq_true (List.ext_getElem hl (fun k h1 h2 => ?_))
  have := h k h1
  simpa [prx, List.getD, h1, h2] using this
set_option maxHeartbeats 4000000 in
theorem sameBounds_any (a1 a2 : Option Addr) (c1 c2 : Nat) (a b : List (Int × Int)) (w : World) (h1 : PrL w w.heap.size a1 c1 a) (h2 : PrL w w.heap.size a2 c2 b) :
    Calls Try.prog 22 #[.slice a1 a.length c1, .slice a2 b.length c2] w fun e w' => e = .returned (.bool (decide (a = b))) ∧ ∃ m, w' = w.drewN m := by
  have hln := Nat.le_trans h1.le h1.max
  have hln2 := Nat.le_trans h2.le h2.max
  unfold maxLen at hln hln2
  have H1 := Lib.hid (fun (W : World) (h : Below w.heap.size w W) => h1.to h h.size)
  have H2 := Lib.hid (fun (W : World) (h : Below w.heap.size w W) => h2.to h h.size)
  clear h1 h2
  by_cases hl : a.length = b.length
  case neg =>
    have H := Lib.hid (bds_ne hl)
    have he : ((a.length : Int) != (b.length : Int)) = true := by simp; omega
    clear hl
    go_enter Try.func22, Try.ntmps22
    go_wp2
    go_ret
    exact ⟨ret_val (by rw [H.out]; rfl), 0, rfl⟩
  have he : ((a.length : Int) != (b.length : Int)) = false := by simp; omega
  have HL := Lib.hid hl
  clear hl
  go_enter Try.func22, Try.ntmps22
  go_wp2
  go_loopw [5] (fun i wr => ∃ k : Nat, k ≤ a.length ∧ i = .int .i64 k ∧ (∀ j, j < k → prx a j = prx b j) ∧ ∃ m, wr = w.drewN m) (fun i _ => a.length - (intOf i).toNat)
  case atStart => exact ⟨0, by omega, rfl, fun j h => by omega, 0, rfl⟩
  case round =>
    obtain ⟨k, hk, rfl, hj, md, hw9⟩ := hrel
    have HJ := Lib.hid hj
    have HW9 := Lib.hid hw9
    have HB := Lib.hid (show Below w.heap.size w wr by rw [hw9]; exact belowN (Below.refl _ _) _)
    clear hj hw9
    by_cases hlt : k < a.length
    case neg =>
      have HG := Lib.hid (bds_good HL.out (fun j hj => HJ.out j (by omega)))
      have hge : ¬ ((k : Int) < a.length) := by omega
      go_wp2
      go_ret
      exact ⟨ret_val (by rw [HG.out]; rfl), md, HW9.out⟩
    case pos =>
      have hlb : k < b.length := by have := HL.out; omega
      obtain ⟨g1, o1, rfl, _, p0, p1⟩ := (H1.out _ HB.out).at_ hlt
      obtain ⟨g2, o2, rfl, _, q0, q1⟩ := (H2.out _ HB.out).at_ hlb
      have hwk : IntKind.i64.wrap ((k : Int) + 1) = (k : Int) + 1 := IntWalk.i64_in _ (by omega)
      by_cases hp : prx a k = prx b k
      · have HP := Lib.hid hp
        rw [← hp] at q0 q1
        clear hp
        have hna : ∀ W : World, (binOp .neq 50 (.agg #[.int .i64 (prx a k).1, .int .i64 (prx a k).2]) (.agg #[.int .i64 (prx a k).1, .int .i64 (prx a k).2])).run Try.prog W = .ok (.bool false) W := fun W => by rw [ne_arr]; simp
        go_wp2
        go_quiet (fail)
        go_wp2
        go_roundw
        case rel => exact ⟨k + 1, by omega, by go_num, all_step HJ.out HP.out, _, by rw [HW9.out, World.drewN_drewN]⟩
        case measure => simp [intOf]; omega
      · have H := Lib.hid (bds_bad hp)
        
        have hb9 : ((prx a k).1 == (prx b k).1 && (prx a k).2 == (prx b k).2) = false := by
          cases h : ((prx a k).1 == (prx b k).1 && (prx a k).2 == (prx b k).2)
          · rfl
          · rw [Bool.and_eq_true, beq_iff_eq, beq_iff_eq] at h
            exact absurd (Prod.ext h.1 h.2) hp
        have hna : ∀ W : World, (binOp .neq 50 (.agg #[.int .i64 (prx a k).1, .int .i64 (prx a k).2]) (.agg #[.int .i64 (prx b k).1, .int .i64 (prx b k).2])).run Try.prog W = .ok (.bool true) W := fun W => by rw [ne_arr, hb9]; rfl
        clear hp hb9
        go_wp2
        go_quiet (fail)
        go_wp2
        go_ret
        exact ⟨ret_val (by rw [H.out]; rfl), _, by rw [HW9.out, World.drewN_drewN]⟩
end Go.Proofs.Ytiafplmaigpmeaa
