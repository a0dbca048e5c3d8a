/- ValuesOk, FactorsOk and ComparisonsCode of the reference. -/
import Derived.Test.YtiafplmaigpmeaaNum
namespace Go.Proofs.Ytiafplmaigpmeaa
open Go.RowKit
set_option linter.unusedSimpArgs false
set_option linter.unusedVariables false
set_option maxRecDepth 100000

theorem all_step {p : Nat → Prop} {k : Nat} (h : ∀ j, j < k → p j) (hk : p k) : ∀ j, j < k + 1 → p j := fun j hj => by
  rcases Nat.lt_succ_iff_lt_or_eq.1 hj with h1 | rfl
  · exact h j h1
  · exact hk
theorem okL_bad {m : Int} {n : Nat} {l : List Int} {k : Nat} (hk : k < l.length) (h : inB (ix l k) (-m) m = false) : okL m n l = false := by
  cases ho : okL m n l
  · rfl
  · have := (okL_iff.1 ho).2 k hk
    rw [inB_iff.2 this] at h
    cases h
theorem okL_good {m : Int} {n : Nat} {l : List Int} (h : ∀ k, k < l.length → inB (ix l k) (-m) m = true) : okL m n l = decide (l.length = n) := by
  by_cases e : l.length = n
  · rw [decide_eq_true e]
    exact okL_iff.2 ⟨e, fun k hk => inB_iff.1 (h k hk)⟩
  · rw [decide_eq_false e]
    cases ho : okL m n l
    · rfl
    · exact absurd (okL_iff.1 ho).1 e
theorem beq_len (a n : Nat) : (((a : Nat) : Int) == (n : Int)) = decide (a = n) := by
  by_cases e : a = n
  · subst e; simp
  · rw [decide_eq_false e]; simp; omega
set_option maxHeartbeats 1000000 in
theorem valuesOk_any (n : Nat) (A : Option Addr) (c : Nat) (l : List Int) (w : World) (hL : Lst w w.heap.size A c l) :
    Calls Try.prog 14 #[.int .i64 n, .slice A l.length c] w fun e w' => e = .returned (.bool (okL 1000000 n l)) ∧ w = w' := by
  have hln := hL.len
  unfold maxLen at hln
  have HL := Lib.hid hL
  clear hL
  go_enter Try.func14, Try.ntmps14
  go_wp2
  go_loop [5] (fun i => ∃ k : Nat, k ≤ l.length ∧ i = .int .i64 k ∧ ∀ j, j < k → inB (ix l j) (-1000000) 1000000 = true) (fun i => l.length - (intOf i).toNat)
  case atStart => exact ⟨0, by omega, rfl, by omega⟩
  case round =>
    obtain ⟨k, hk, rfl, hj⟩ := hrel
    have HJ := Lib.hid hj
    clear hj
    by_cases hlt : k < l.length
    · obtain ⟨b, o, rfl, _, hc⟩ := HL.out.nums.at_ hlt
      cases hi : inB (ix l k) (-1000000) 1000000
      · have HB := Lib.hid (okL_bad (n := n) hlt hi)
        go_wp2_with (go_at_call 16; refine (in_any _ _ _ _).mono ?_; rintro e w' ⟨rfl, rfl⟩)
        go_ret
        exact ⟨ret_val (by rw [HB.out]; rfl), rfl⟩
      · have HI := Lib.hid hi
        go_wp2_with (go_at_call 16; refine (in_any _ _ _ _).mono ?_; rintro e w' ⟨rfl, rfl⟩)
        go_round
        case rel => exact ⟨k + 1, by omega, by go_num, all_step HJ.out HI.out⟩
        case measure => simp [intOf]; omega
    · have hge : ¬ ((k : Int) < l.length) := by omega
      have hq := beq_len l.length n
      have HG := Lib.hid (okL_good (m := 1000000) (n := n) (fun j hj => HJ.out j (by omega)))
      go_wp2
      go_ret
      exact ⟨ret_val (by rw [HG.out]; rfl), rfl⟩
set_option maxHeartbeats 1000000 in
theorem factorsOk_any (n : Nat) (A : Option Addr) (c : Nat) (l : List Int) (w : World) (hL : Lst w w.heap.size A c l) :
    Calls Try.prog 25 #[.int .i64 n, .slice A l.length c] w fun e w' => e = .returned (.bool (okL 1000 n l)) ∧ w = w' := by
  have hln := hL.len
  unfold maxLen at hln
  have HL := Lib.hid hL
  clear hL
  go_enter Try.func25, Try.ntmps25
  go_wp2
  go_loop [5] (fun i => ∃ k : Nat, k ≤ l.length ∧ i = .int .i64 k ∧ ∀ j, j < k → inB (ix l j) (-1000) 1000 = true) (fun i => l.length - (intOf i).toNat)
  case atStart => exact ⟨0, by omega, rfl, by omega⟩
  case round =>
    obtain ⟨k, hk, rfl, hj⟩ := hrel
    have HJ := Lib.hid hj
    clear hj
    by_cases hlt : k < l.length
    · obtain ⟨b, o, rfl, _, hc⟩ := HL.out.nums.at_ hlt
      cases hi : inB (ix l k) (-1000) 1000
      · have HB := Lib.hid (okL_bad (n := n) hlt hi)
        go_wp2_with (go_at_call 16; refine (in_any _ _ _ _).mono ?_; rintro e w' ⟨rfl, rfl⟩)
        go_ret
        exact ⟨ret_val (by rw [HB.out]; rfl), rfl⟩
      · have HI := Lib.hid hi
        go_wp2_with (go_at_call 16; refine (in_any _ _ _ _).mono ?_; rintro e w' ⟨rfl, rfl⟩)
        go_round
        case rel => exact ⟨k + 1, by omega, by go_num, all_step HJ.out HI.out⟩
        case measure => simp [intOf]; omega
    · have hge : ¬ ((k : Int) < l.length) := by omega
      have hq := beq_len l.length n
      have HG := Lib.hid (okL_good (m := 1000) (n := n) (fun j hj => HJ.out j (by omega)))
      go_wp2
      go_ret
      exact ⟨ret_val (by rw [HG.out]; rfl), rfl⟩

theorem cc_bad {n : Nat} {l : List Cmp} {k : Nat} (h8 : l.length ≤ 8) (hk : k < l.length) (h0 : ∀ j, j < k → cc1 n (cmp l j) = 0) (h : cc1 n (cmp l k) ≠ 0) : ccode n l = cc1 n (cmp l k) := by
  unfold ccode
  rw [if_neg (by omega), ← ix_ccode hk]
  exact fz_at (fun j hj => by rw [ix_ccode (by omega)]; exact h0 j hj) (by rw [ix_ccode hk]; exact h)
theorem cc_good {n : Nat} {l : List Cmp} (h8 : l.length ≤ 8) (h0 : ∀ j, j < l.length → cc1 n (cmp l j) = 0) : ccode n l = 0 := by
  unfold ccode
  rw [if_neg (by omega)]
  exact fz_none (fun j hj => by rw [ix_ccode (by simpa using hj)]; exact h0 j (by simpa using hj))
set_option maxHeartbeats 2000000 in
theorem compCode_any (n : Nat) (A : Option Addr) (c : Nat) (l : List Cmp) (w : World) (hL : CmpL w w.heap.size A c l) :
    Calls Try.prog 24 #[.int .i64 n, .slice A l.length c] w fun e w' => e = .returned (.int .i64 (ccode n l)) ∧ w = w' := by
  have hln := Nat.le_trans hL.le hL.max
  unfold maxLen at hln
  have HL := Lib.hid hL
  clear hL
  by_cases h8 : 8 < l.length
  case pos =>
    have H := Lib.hid (show ccode n l = 2 by unfold ccode; rw [if_pos h8])
    have hd : decide ((8 : Int) < (l.length : Int)) = true := by simp; omega
    go_enter Try.func24, Try.ntmps24
    go_wp2
    go_ret
    exact ⟨ret_int H.out.symm, rfl⟩
  case neg =>
    have hd : decide ((8 : Int) < (l.length : Int)) = false := by simp; omega
    go_enter Try.func24, Try.ntmps24
    go_wp2
    go_loop [5] (fun i => ∃ k : Nat, k ≤ l.length ∧ i = .int .i64 k ∧ ∀ j, j < k → cc1 n (cmp l j) = 0) (fun i => l.length - (intOf i).toNat)
    case atStart => exact ⟨0, by omega, rfl, by omega⟩
    case round =>
      obtain ⟨k, hk, rfl, hj⟩ := hrel
      have HJ := Lib.hid hj
      clear hj
      by_cases hlt : k < l.length
      · obtain ⟨b, p, a, ca, rfl, _, ⟨q0, q1, q2⟩, hf⟩ := HL.out.at_ hlt
        have HF := Lib.hid hf
        clear hf
        have hcc : cc1 n (cmp l k) = if inB (cmp l k).k 1 2 then (if okL 1000 n (cmp l k).f && inB (cmp l k).b (-1000000) 1000000 then 0 else 3) else 4 := rfl
        cases h1 : inB (cmp l k).k 1 2
        · rw [h1] at hcc
          have HB := Lib.hid (show ccode n l = 4 by rw [cc_bad (by omega) hlt HJ.out (by rw [hcc]; simp), hcc]; rfl)
          clear hcc
          go_wp2_with (go_at_call 16; refine (in_any _ _ _ _).mono ?_; rintro e w' ⟨rfl, rfl⟩)
          go_ret
          exact ⟨ret_int HB.out.symm, rfl⟩
        rw [h1] at hcc
        cases h2 : okL 1000 n (cmp l k).f
        · rw [h2] at hcc
          have HB := Lib.hid (show ccode n l = 3 by rw [cc_bad (by omega) hlt HJ.out (by rw [hcc]; simp), hcc]; rfl)
          clear hcc
          go_wp2_with (first | (go_at_call 16; refine (in_any _ _ _ _).mono ?_; rintro e w' ⟨rfl, rfl⟩) | (go_at_call 25; refine (factorsOk_any n a ca (cmp l k).f _ HF.out).mono ?_; rintro e w' ⟨rfl, rfl⟩))
          go_ret
          exact ⟨ret_int HB.out.symm, rfl⟩
        rw [h2] at hcc
        cases h3 : inB (cmp l k).b (-1000000) 1000000
        · rw [h3] at hcc
          have HB := Lib.hid (show ccode n l = 3 by rw [cc_bad (by omega) hlt HJ.out (by rw [hcc]; simp), hcc]; rfl)
          clear hcc
          go_wp2_with (first | (go_at_call 16; refine (in_any _ _ _ _).mono ?_; rintro e w' ⟨rfl, rfl⟩) | (go_at_call 25; refine (factorsOk_any n a ca (cmp l k).f _ HF.out).mono ?_; rintro e w' ⟨rfl, rfl⟩))
          go_ret
          exact ⟨ret_int HB.out.symm, rfl⟩
        rw [h3] at hcc
        have HI := Lib.hid (show cc1 n (cmp l k) = 0 by rw [hcc]; rfl)
        clear hcc
        go_wp2_with (first | (go_at_call 16; refine (in_any _ _ _ _).mono ?_; rintro e w' ⟨rfl, rfl⟩) | (go_at_call 25; refine (factorsOk_any n a ca (cmp l k).f _ HF.out).mono ?_; rintro e w' ⟨rfl, rfl⟩))
        go_round
        case rel => exact ⟨k + 1, by omega, by go_num, all_step HJ.out HI.out⟩
        case measure => simp [intOf]; omega
      · have hge : ¬ ((k : Int) < l.length) := by omega
        have HG := Lib.hid (cc_good (n := n) (l := l) (by omega) (fun j hj => HJ.out j (by omega)))
        go_wp2
        go_ret
        exact ⟨ret_int HG.out.symm, rfl⟩
end Go.Proofs.Ytiafplmaigpmeaa
