/- validateWith of package types. -/
import Derived.Test.YtjmkilmpfaapbaaTuse
namespace Go.Proofs.Ytjmkilmpfaapbaa
open Go.RowKit
set_option linter.unusedSimpArgs false
set_option linter.unusedVariables false
set_option maxRecDepth 100000

theorem usedF_ok {ts : List Ent} (xs : List Int) (h : (tyFault ts).1 = 0) : usedF ts xs = if xs.all (istB ts.length) then (0, 0) else (3, -2) := by simp [usedF, h]
theorem all_bad {xs : List Int} {n k : Nat} (hk : k < xs.length) (h : istB n (ix xs k) = false) : xs.all (istB n) = false := by
  rw [List.all_eq_false]
  refine ⟨xs[k], List.getElem_mem _, ?_⟩
  simp only [ix, List.getD, List.getElem?_eq_getElem hk, Option.getD_some] at h
  simp [h]
theorem all_good {xs : List Int} {n : Nat} (h : ∀ j, j < xs.length → istB n (ix xs j) = true) : xs.all (istB n) = true := by
  rw [List.all_eq_true]
  intro x hx
  obtain ⟨j, hj, rfl⟩ := List.getElem_of_mem hx
  have := h j hj
  simp only [ix, List.getD, List.getElem?_eq_getElem hj, Option.getD_some] at this
  exact this
theorem all_step {xs : List Int} {n k : Nat} (h : ∀ j, j < k → istB n (ix xs j) = true) (hk : istB n (ix xs k) = true) : ∀ j, j < k + 1 → istB n (ix xs j) = true := by
  intro j hj
  by_cases e : j = k
  · subst e; exact hk
  · exact h j (by omega)

set_option maxHeartbeats 1000000 in
theorem with_any (A : Option Addr) (c : Nat) (ts : List Ent) (A2 : Option Addr) (c2 : Nat) (xs : List Int) (w : World) (hE : Ents w w.heap.size A ts) (hn : ts.length ≤ maxLen) (hcap : ts.length ≤ c) (hcm : c ≤ maxLen)
    (hX : Nums w w.heap.size A2 xs) (hxn : xs.length ≤ maxLen) :
    Calls Try.prog 26 #[.slice A ts.length c, .slice A2 xs.length c2] w fun e w' => e = .returned (.agg #[.int .i64 (usedF ts xs).1, .int .i64 (usedF ts xs).2]) ∧ Below w.heap.size w w' := by
  have hcall := validate_any A c ts (w.alloc (.cells #[.int .i64 0, .int .i64 0] 26)) (hE.to ((Below.refl _ w).alloc (Nat.le_refl _) _) (by simp)) hn hcap hcm
  clear hE
  have HX := Lib.hid hX
  clear hX
  unfold maxLen at hn hxn
  have HT := Lib.hid (two_new w (.int .i64 0) (.int .i64 0) 26)
  by_cases h0 : (tyFault ts).1 = 0
  · have H1 := tyFault_zero h0
    have HU := Lib.hid (usedF_ok xs h0)
    rw [H1] at hcall
    clear H1 h0
    go_enter Try.func26, Try.ntmps26
    go_wp2_with (first | (go_at_call 8; refine hcall.mono ?_; rintro e w' ⟨rfl, hbw⟩; have tw := two_to HT.out hbw; obtain ⟨_, k0, k1, kf0, kf1⟩ := tw) | (go_at_call 35; refine (isType_any _ _ _ _ _).mono ?_; rintro e w' ⟨rfl, rfl⟩))
    have hbase : Below w.heap.size w w' := ((Below.refl _ w).alloc (Nat.le_refl _) _).trans (hbw.mono (by simp))
    have HB := Lib.hid hbase
    clear hbase
    have HTW := Lib.hid (show Two w' w.heap.size _ _ from ⟨‹_›, k0, k1, kf0, kf1⟩)
    go_loop [16] (fun i => ∃ k : Nat, k ≤ xs.length ∧ i = .int .i64 k ∧ ∀ j, j < k → istB ts.length (ix xs j) = true) (fun i => xs.length - (intOf i).toNat)
    case atStart => exact ⟨0, by omega, rfl, by omega⟩
    case round =>
      obtain ⟨k, hk, rfl, hj⟩ := hrel
      have HJ := Lib.hid hj
      clear hj
      by_cases hlt : k < xs.length
      · have hx1 := HX.out.to (B' := w'.heap.size) HB.out (by omega)
        obtain ⟨b, o, rfl, hbl, hs⟩ := (hx1.to (w' := w'.alloc (.cells #[.int .i64 0, .int .i64 0] 26)) ((Below.refl _ _).alloc (Nat.le_refl _) _) (Nat.le_refl _)).at_ hlt
        clear hx1
        cases hi : istB ts.length (ix xs k)
        · have HI := Lib.hid hi
          go_wp2_with (go_at_call 35; refine (isType_any _ _ _ _ _).mono ?_; rintro e w' ⟨rfl, rfl⟩)
          have tw := HTW.out
          refine post_fault (g := w.heap.size) (x := (.int .i64 3)) (y := (.int .i64 (-2))) Try.results26 rfl ?_ ?_
          · repeat' (first | (with_reducible assumption) | (with_reducible exact Two.pair ‹_›) | (with_reducible refine Pair.set ?_ _ _) | (with_reducible refine Two.alloc ?_ _) | (with_reducible refine Pair.alloc ?_ _) | (with_reducible refine Two.far ?_ ?_ _) | (with_reducible refine Pair.far ?_ ?_ _) | (simp; omega))
          · refine ⟨ret_val (by rw [HU.out, all_bad hlt HI.out]; rfl), ?_⟩
            have hbase : Below w.heap.size w w' := HB.out
            go_grown
        · have HI := Lib.hid hi
          go_wp2_with (go_at_call 35; refine (isType_any _ _ _ _ _).mono ?_; rintro e w' ⟨rfl, rfl⟩)
          go_round
          case rel => exact ⟨k + 1, by omega, by go_num, all_step HJ.out HI.out⟩
          case measure => simp [intOf]; omega
      · have hge : ¬ ((k : Int) < xs.length) := by omega
        go_wp2
        have tw := HTW.out
        refine post_fault (g := w.heap.size) (x := (.int .i64 0)) (y := (.int .i64 0)) Try.results26 rfl ?_ ?_
        · repeat' (first | (with_reducible assumption) | (with_reducible exact Two.pair ‹_›) | (with_reducible refine Pair.set ?_ _ _) | (with_reducible refine Two.alloc ?_ _) | (with_reducible refine Pair.alloc ?_ _) | (with_reducible refine Two.far ?_ ?_ _) | (with_reducible refine Pair.far ?_ ?_ _) | (simp; omega))
        · refine ⟨ret_val (by rw [HU.out, all_good (fun j hj => HJ.out j (by omega))]; rfl), ?_⟩
          have hbase : Below w.heap.size w w' := HB.out
          go_grown
  · have H := Lib.hid (show usedF ts xs = tyFault ts by simp [usedF, h0])
    have hne : ((tyFault ts).1 != 0) = true := by simpa using h0
    have hne2 : ((tyFault ts).1 == 0) = false := by simpa using h0
    clear h0
    go_enter Try.func26, Try.ntmps26
    go_wp2_with (first | (go_at_call 8; refine hcall.mono ?_; rintro e w' ⟨rfl, hbw⟩; have tw := two_to HT.out hbw; obtain ⟨_, k0, k1, kf0, kf1⟩ := tw) | (go_at_call 35; refine (isType_any _ _ _ _ _).mono ?_; rintro e w' ⟨rfl, rfl⟩))
    have tw := two_to HT.out hbw
    refine post_fault (g := w.heap.size) (x := (.int .i64 (tyFault ts).1)) (y := (.int .i64 (tyFault ts).2)) Try.results26 rfl ?_ ?_
    · repeat' (first | (with_reducible assumption) | (with_reducible exact Two.pair ‹_›) | (with_reducible refine Pair.set ?_ _ _) | (with_reducible refine Two.alloc ?_ _) | (with_reducible refine Pair.alloc ?_ _) | (with_reducible refine Two.far ?_ ?_ _) | (with_reducible refine Pair.far ?_ ?_ _) | (simp; omega))
    · refine ⟨ret_val (by rw [H.out]), ?_⟩
      have hbase : Below w.heap.size w w' := ((Below.refl _ w).alloc (Nat.le_refl _) _).trans (hbw.mono (by simp))
      go_grown

end Go.Proofs.Ytjmkilmpfaapbaa
