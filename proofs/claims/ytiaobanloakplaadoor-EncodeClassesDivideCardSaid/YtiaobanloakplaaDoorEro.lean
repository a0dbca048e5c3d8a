/- Package encode: roleOf and what it calls. -/
import Derived.Test.YtiaobanloakplaaDoorEst
import Derived.Deep.RegionHeld3
import Derived.Outline
namespace Go.Proofs.YtiaobanloakplaaDoor
open Go.RowKit
set_option linter.unusedSimpArgs false
set_option linter.unusedVariables false
set_option maxRecDepth 100000

set_option maxHeartbeats 1000000 in
theorem firstNumbers_any (n : Nat) (w : World) (hn : n ≤ 25) : Calls Tryd.prog 97 #[.int .i64 n] w (IntsPost w (cntL n)) := by
  obtain ⟨i0, hi, hz0, hz1, hz2⟩ := info_parts info_int
  go_enter Tryd.func97, Tryd.ntmps97
  go_wp2
  go_loopw [3, 6] (fun v i wr => ∃ k : Nat, k ≤ n ∧ i = .int .i64 k ∧ Below w.heap.size w wr ∧ wr.ownsRow w.heap.size 3 1 v (cntL k).length ((cntL k).map (Value.int .i64))) (fun _ i _ => n - (intOf i).toNat)
  case atStart => exact ⟨0, by omega, rfl, Below.refl _ _, World.ownsRow_nil _ _ _ _⟩
  case round =>
    obtain ⟨k, hk, rfl, hbw, hown⟩ := hrel
    have HW := Lib.hid hbw
    have HO := Lib.hid hown
    clear hbw hown
    have hsz := HW.out.size
    by_cases hlt : k < n
    case neg =>
      have hge : ¬ ((k : Int) < n) := by omega
      have H := Lib.hid (show k = n by omega)
      go_wp2
      go_ret
      exact ⟨_, rfl, by have := HO.out; rw [H.out] at this; exact this, HW.out⟩
    have hle : (cntL k).length ≤ 25 := by rw [cntL_len]; omega
    have HQ := Lib.hid (cntL_succ k)
    generalize cntL k = q at *
    go_wp2_with (at_builtin; refine wpList_append_own_at _ rfl _ _ 22 rfl (w.heap.size) 3 i0 (.int .i64 0) 1 8 Tryd.underlying22 hi hz0 hz1 hz2 rfl (by decide) _ _ _ rfl (HO.out.alloc _) ⟨wr.heap.size, 0, none⟩ 1 1 [.int .i64 k] rfl rfl ?c1 ?c2 ?c3 ?c4 ?c5 ?_)
    case c1 => exact cell_one_new _ _ _
    case c2 => simp [Value.oneCell']
    case c3 => unfold maxLen; omega
    case c4 => omega
    case c5 => simp; omega
    intro v2 w2 hown2 hgrow _ _
    have HW2 := Lib.hid (HW.out.trans (Below.grown (B := w.heap.size) ((Below.refl _ _).alloc hsz _) hgrow (by simp; omega) (fun q hq => (HO.out.lt q hq).1)))
    have HO2 := Lib.hid hown2
    clear hgrow hown2
    go_wp2
    go_roundw
    case rel => exact ⟨k + 1, by omega, by go_num, HW2.out, by rw [HQ.out]; simpa using HO2.out⟩
    case measure => simp [intOf]; omega

/-- The function of a role, and what it holds. -/
def RolF (r : Rol) (vf : Value) (W : World) : Prop := ∃ g1 g2 g3 v1 v2, vf = .func (.func 96) #[] #[.pointer (some ⟨g1, 0, none⟩), .pointer (some ⟨g2, 0, none⟩), .pointer (some ⟨g3, 0, none⟩)] ∧ W.cell? ⟨g1, 0, none⟩ = some v1 ∧ SlL r.add v1 W ∧ W.cell? ⟨g2, 0, none⟩ = some v2 ∧ SlL r.del v2 W ∧ W.cell? ⟨g3, 0, none⟩ = some (.int .i64 r.non)
set_option maxHeartbeats 1000000 in
theorem after_role (r : Rol) (b : Int) (g1 g2 g3 : Nat) (v1 v2 : Value) (w : World) (h1 : w.cell? ⟨g1, 0, none⟩ = some v1) (k1 : SlL r.add v1 w) (h2 : w.cell? ⟨g2, 0, none⟩ = some v2) (k2 : SlL r.del v2 w) (h3 : w.cell? ⟨g3, 0, none⟩ = some (.int .i64 r.non)) :
    Calls Tryd.prog 96 #[.int .i64 b, .pointer (some ⟨g1, 0, none⟩), .pointer (some ⟨g2, 0, none⟩), .pointer (some ⟨g3, 0, none⟩)] w fun e w' => e = .returned (.int .i64 (aftR r b)) ∧ w = w' := by
  obtain ⟨a1, c1, rfl, l1⟩ := k1
  obtain ⟨a2, c2, rfl, l2⟩ := k2
  have HC := Lib.hid (containsE_any a2 c2 r.del b w l2.lst.nums l2.lst.len)
  by_cases ha : 0 < r.add.length
  · have H := Lib.hid (show aftR r b = ix r.add 0 by unfold aftR; rw [if_pos ha])
    obtain ⟨b1, o1, rfl, _, hc⟩ := l1.lst.nums.at_ ha
    have d1 : decide ((0 : Int) < (r.add.length : Int)) = true := decide_eq_true (by omega)
    rw [Nat.add_zero] at hc
    have hi0 : (0 : Int) < (r.add.length : Int) := by omega
    clear l1 l2
    go_enter Tryd.func96, Tryd.ntmps96
    go_wp2
    go_ret
    exact ⟨by rw [H.out]; rfl, rfl⟩
  have d1 : decide ((0 : Int) < (r.add.length : Int)) = false := decide_eq_false (by omega)
  have d0 : decide (0 < r.add.length) = false := decide_eq_false (by omega)
  by_cases hm : b ∈ r.del
  · have H := Lib.hid (show aftR r b = r.non by unfold aftR; rw [if_neg ha, if_pos hm])
    rw [decide_eq_true hm] at HC
    clear l1 l2 ha hm
    go_enter Tryd.func96, Tryd.ntmps96
    go_wp2_with (go_at_call 90; (with_reducible refine HC.out.mono ?_); rintro e w' ⟨rfl, rfl⟩)
    go_ret
    exact ⟨by rw [H.out]; rfl, rfl⟩
  · have H := Lib.hid (show aftR r b = b by unfold aftR; rw [if_neg ha, if_neg hm])
    rw [decide_eq_false hm] at HC
    clear l1 l2 ha hm
    go_enter Tryd.func96, Tryd.ntmps96
    go_wp2_with (go_at_call 90; (with_reducible refine HC.out.mono ?_); rintro e w' ⟨rfl, rfl⟩)
    go_ret
    exact ⟨by rw [H.out]; rfl, rfl⟩
end Go.Proofs.YtiaobanloakplaaDoor
