/- Applies, After and CostOf of the reference. -/
import Derived.Test.YtkflidnclndpkaaDoorKco
namespace Go.Proofs.YtkflidnclndpkaaDoor
open Go.RowKit
set_option linter.unusedSimpArgs false
set_option linter.unusedVariables false
set_option maxRecDepth 100000

theorem TBox.alloc {w : World} {g : Nat} {x : Tsk} (h : TBox w g x) (o : Obj) : TBox (w.alloc o) g x := h.to ((Below.refl _ _).alloc (Nat.le_refl _) o) h.lt

set_option maxHeartbeats 2000000 in
theorem applies_any (x : Tsk) (a2 : Option Addr) (c2 : Nat) (s : List Int) (k : Nat) (hk : k < x.ops.length) (w : World) (hX : TskIn w w.heap.size x) (hS : Lst w w.heap.size a2 c2 s) :
    Calls Tryd.prog 43 #[.agg #[.int .i64 x.n, .slice x.ai x.init.length x.ci, .slice x.ag x.goal.length x.cg, .slice x.ao x.ops.length x.co], .slice a2 s.length c2, .int .i64 k] w fun e w' => e = .returned (.bool (subB (opr x.ops k).pre s)) ∧ Below w.heap.size w w' := by
  have hB1 : Below w.heap.size w (w.alloc (.cells #[.int .i64 x.n, .slice x.ai x.init.length x.ci, .slice x.ag x.goal.length x.cg, .slice x.ao x.ops.length x.co] 25)) := by go_grown
  have hX1 := hX.to hB1 hB1.size
  have hS1 := Lib.hid (hS.to hB1 hB1.size)
  clear hX hS hB1
  have hlen := hX1.len
  unfold maxLen at hlen
  obtain ⟨b, p, a1, a2', a3', c1, c2', c3', hao, hbl, ⟨q0, q1, q2, q3⟩, hOV⟩ := hX1.ops.at_ hk
  have HOV := Lib.hid hOV
  clear hOV hX1 q1 q2 q3
  rw [hao] at q0 HOV hS1 ⊢
  go_enter Tryd.func43, Tryd.ntmps43
  go_wp2_with (go_at_call 54; refine (subset_any _ _ _ _ (opr x.ops k).pre s _ HOV.out.pre.nums hS1.out.nums HOV.out.pre.len hS1.out.len).mono ?_; rintro e w1 ⟨rfl, rfl⟩)
  go_ret
  exact ⟨rfl, by go_grown⟩

theorem aftL_eq (n : Nat) (add del s : List Int) : aftL n add del s = facs n (fun p => hasB add p || (hasB s p && !hasB del p)) := rfl

set_option maxHeartbeats 4000000 in
theorem afterR_any (x : Tsk) (n : Nat) (hn : x.n = n) (h24 : n ≤ 24) (a2 : Option Addr) (c2 : Nat) (s : List Int) (k : Nat) (hk : k < x.ops.length) (w : World) (hX : TskIn w w.heap.size x) (hS : Lst w w.heap.size a2 c2 s) :
    Calls Tryd.prog 44 #[.agg #[.int .i64 x.n, .slice x.ai x.init.length x.ci, .slice x.ag x.goal.length x.cg, .slice x.ao x.ops.length x.co], .slice a2 s.length c2, .int .i64 k] w (ListPost w (aftL n (opr x.ops k).add (opr x.ops k).del s)) := by
  have hlen := hX.len
  unfold maxLen at hlen
  have HX := Lib.hid (fun (W : World) (h : Below w.heap.size w W) => hX.to h h.size)
  have HS := Lib.hid (fun (W : World) (h : Below w.heap.size w W) => hS.to h h.size)
  clear hX hS
  have HN := Lib.hid hn
  rw [aftL_eq]
  obtain ⟨i0, hi, hz0, hz1, hz2⟩ := info_parts info_int
  have HB0 := Lib.hid (tbox_new w x 25)
  rw [hn] at HB0 ⊢
  clear hn
  go_enter Tryd.func44, Tryd.ntmps44
  go_wp2
  go_loopw [7, 8] (fun v i wr => ∃ p : Nat, p ≤ n ∧ i = .int .i64 p ∧ Below w.heap.size w wr ∧ TBox wr w.heap.size x ∧ wr.ownsRow (w.heap.size + 1) 3 1 v (facs p (fun p => hasB (opr x.ops k).add p || (hasB s p && !hasB (opr x.ops k).del p))).length ((facs p (fun p => hasB (opr x.ops k).add p || (hasB s p && !hasB (opr x.ops k).del p))).map (Value.int .i64))) (fun _ i _ => n - (intOf i).toNat)
  case atStart => exact ⟨0, by omega, rfl, by go_grown, HB0.out, World.ownsRow_nil _ _ _ _⟩
  case round =>
    obtain ⟨p, hp, rfl, hbe, hbox, hown⟩ := hrel
    have HBE := Lib.hid hbe
    have HBX := Lib.hid hbox
    clear hbe hbox
    obtain ⟨hz, t0, t1, t2, t3⟩ := HBX.out
    rw [HN.out] at t0
    by_cases hlt : p < n
    · obtain ⟨b, q, a1, a2', a3', c1, c2', c3', hao, hbl, ⟨q0, q1, q2, q3⟩, hOV⟩ := (HX.out _ HBE.out).ops.at_ hk
      have H1 := Lib.hid (has_any a2' c2' (opr x.ops k).add p wr hOV.add.nums hOV.add.len)
      have H2 := Lib.hid (has_any a2 c2 s p wr (HS.out _ HBE.out).nums (HS.out _ HBE.out).len)
      have H3 := Lib.hid (has_any a3' c3' (opr x.ops k).del p wr hOV.del.nums hOV.del.len)
      clear hOV q0 q3
      rw [hao] at t3
      clear hao
      have hlf := facs_len p (fun p => hasB (opr x.ops k).add p || (hasB s p && !hasB (opr x.ops k).del p))
      cases hc : (hasB (opr x.ops k).add p || (hasB s p && !hasB (opr x.ops k).del p))
      · have HQ := Lib.hid (facs_succ_no (n := p) (f := fun p => hasB (opr x.ops k).add p || (hasB s p && !hasB (opr x.ops k).del p)) hc)
        rw [Bool.or_eq_false_iff] at hc
        obtain ⟨hc1, hc2⟩ := hc
        cases hc3 : hasB s p
        case' true =>
          rw [hc3] at hc2
          have hc4 : hasB (opr x.ops k).del p = true := by simpa using hc2
        all_goals
          clear hc2
          go_wp2_with (first
            | (go_at_call 53; (with_reducible refine H1.out.mono ?_); rintro e w1 ⟨rfl, rfl⟩)
            | (go_at_call 53; (with_reducible refine H2.out.mono ?_); rintro e w1 ⟨rfl, rfl⟩)
            | (go_at_call 53; (with_reducible refine H3.out.mono ?_); rintro e w1 ⟨rfl, rfl⟩))
          go_roundw
          case rel => exact ⟨p + 1, by omega, by go_num, HBE.out, HBX.out, by rw [HQ.out]; exact hown⟩
          case measure => simp [intOf]; omega
      · have HQ := Lib.hid (facs_succ_yes (n := p) (f := fun p => hasB (opr x.ops k).add p || (hasB s p && !hasB (opr x.ops k).del p)) hc)
        cases hc1 : hasB (opr x.ops k).add p
        case' false =>
          rw [hc1] at hc
          obtain ⟨hc3, hc4⟩ : hasB s p = true ∧ hasB (opr x.ops k).del p = false := by simpa using hc
        all_goals
          clear hc
          go_wp2_with (first
            | (go_at_call 53; (with_reducible refine H1.out.mono ?_); rintro e w1 ⟨rfl, rfl⟩)
            | (go_at_call 53; (with_reducible refine H2.out.mono ?_); rintro e w1 ⟨rfl, rfl⟩)
            | (go_at_call 53; (with_reducible refine H3.out.mono ?_); rintro e w1 ⟨rfl, rfl⟩)
            | (at_builtin; refine wpList_append_own _ rfl _ _ 22 rfl (w.heap.size + 1) 3 i0 (.int .i64 0) 1 8 Tryd.underlying22 hi hz0 hz1 hz2 rfl (by decide) _ _ _ rfl (hown.alloc _) ⟨wr.heap.size, 0, none⟩ 1 1 [.int .i64 p] rfl rfl (cell_one_new _ _ _) (by simp [Value.oneCell']) (by unfold maxLen; omega) (by omega) (by simp; omega) ?_))
          intro v' w6 hown6 hgrow _
          have HG := Lib.hid hgrow
          clear hgrow
          go_wp2
          go_roundw
          case rel =>
            refine ⟨p + 1, by omega, by go_num, ?_, ?_, ?_⟩
            · have h6 : Below w.heap.size w (wr.alloc (.cells #[.int .i64 p] 3)) := HBE.out.alloc HBE.out.size _
              exact h6.grown HG.out h6.size (fun q hq => by have := (hown.lt q hq).1; omega)
            · have h7 : Below (w.heap.size + 1) (wr.alloc (.cells #[.int .i64 p] 3)) w6 := (Below.refl _ _).grown HG.out (by simp; omega) (fun q hq => (hown.lt q hq).1)
              exact (HBX.out.alloc _).to h7 (by omega)
            · rw [HQ.out]; simpa using hown6
          case measure => simp [intOf]; omega
    · obtain rfl : p = n := by omega
      go_wp2
      go_ret
      exact ⟨_, rfl, own_mono hown (by omega), HBE.out⟩
end Go.Proofs.YtkflidnclndpkaaDoor
