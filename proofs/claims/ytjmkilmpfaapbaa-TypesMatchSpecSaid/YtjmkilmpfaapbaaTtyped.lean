/- typed of the laws: the closed example is true. -/
import Derived.Test.YtjmkilmpfaapbaaTlad
namespace Go.Proofs.Ytjmkilmpfaapbaa
open Go.RowKit
set_option linter.unusedSimpArgs false
set_option linter.unusedVariables false
set_option maxRecDepth 100000

theorem sub_10 (A : Option Addr) (w : World) (hE : Ents w w.heap.size A ladL) :
    Calls Try.prog 11 #[.slice A 3 3, .int .i64 1, .int .i64 0] w fun e w' => e = .returned (.tuple #[.bool true, .agg #[.int .i64 0, .int .i64 0]]) ∧ Below w.heap.size w w' := by
  have h := sub_any A 3 ladL 1 0 w hE (by decide) (by decide) (by decide)
  rw [lad_s10, lad_f10] at h
  exact h
theorem sub_01 (A : Option Addr) (w : World) (hE : Ents w w.heap.size A ladL) :
    Calls Try.prog 11 #[.slice A 3 3, .int .i64 0, .int .i64 1] w fun e w' => e = .returned (.tuple #[.bool false, .agg #[.int .i64 0, .int .i64 0]]) ∧ Below w.heap.size w w' := by
  have h := sub_any A 3 ladL 0 1 w hE (by decide) (by decide) (by decide)
  rw [lad_s01, lad_f01] at h
  exact h
theorem join_12 (A : Option Addr) (w : World) (hE : Ents w w.heap.size A ladL) :
    Calls Try.prog 12 #[.slice A 3 3, .int .i64 1, .int .i64 2] w fun e w' => e = .returned (.tuple #[.int .i64 (-1), .agg #[.int .i64 0, .int .i64 0]]) ∧ Below w.heap.size w w' := by
  have h := join_any A 3 ladL 1 2 w hE (by decide) (by decide) (by decide)
  rw [lad_j12, lad_f12] at h
  exact h
theorem members_lad (A A2 : Option Addr) (w : World) (hE : Ents w w.heap.size A ladL) (hO : Ents w w.heap.size A2 obL) :
    Calls Try.prog 16 #[.slice A 3 3, .slice A2 2 2, .int .i64 0] w (MemPost w (0, 0) [0]) := by
  have h := members_any A 3 ladL A2 2 obL 0 w hE (by decide) (by decide) (by decide) hO (by decide) (by decide) (by decide)
  rw [lad_mf, lad_ml] at h
  exact h
theorem validate_bad (A : Option Addr) (w : World) (hE : Ents w w.heap.size A badL) :
    Calls Try.prog 8 #[.slice A 1 1] w fun e w' => e = .returned (.agg #[.int .i64 12, .int .i64 0]) ∧ Below w.heap.size w w' := by
  have h := validate_any A 1 badL w hE (by decide) (by decide) (by decide)
  rw [bad_f] at h
  exact h
theorem ints_zero (A A2 : Option Addr) (c : Nat) (w : World) (hX : Nums w w.heap.size A [0]) (hY : Nums w w.heap.size A2 [0]) :
    Calls Try.prog 17 #[.slice A 1 c, .slice A2 1 1] w fun e w' => e = .returned (.bool true) ∧ Below w.heap.size w w' := by
  have h := ints_any A A2 c 1 [0] [0] w hX hY (by decide) (by decide)
  have e : eqL [0] [0] = true := by decide
  rw [e] at h
  exact h

set_option maxRecDepth 100000 in
set_option maxHeartbeats 400000 in
theorem typed_any (w : World) :
    Calls Try.prog 7 #[] w fun e w' => e = .returned (.bool true) ∧ Below w.heap.size w w' := by
  go_enter Try.func7, Try.ntmps7
  go_wp2_with (go_at_call 21; refine (ladder_any _).mono ?_; rintro e w' ⟨rfl, rfl⟩)
  refine (sub_10 _ _ ?_).mono ?_
  · exact lad_at _ _ (by simp) _
  rintro e w1 ⟨rfl, hb1⟩
  go_wp2_with (go_at_call 21; refine (ladder_any _).mono ?_; rintro e w' ⟨rfl, rfl⟩)
  refine (sub_01 _ _ ?_).mono ?_
  · exact lad_at _ _ (by simp) _
  rintro e w2 ⟨rfl, hb2⟩
  go_wp2_with (go_at_call 21; refine (ladder_any _).mono ?_; rintro e w' ⟨rfl, rfl⟩)
  refine (join_12 _ _ ?_).mono ?_
  · exact lad_at _ _ (by simp) _
  rintro e w3 ⟨rfl, hb3⟩
  go_wp2_with (go_at_call 21; refine (ladder_any _).mono ?_; rintro e w' ⟨rfl, rfl⟩)
  refine (members_lad _ _ _ ?_ ?_).mono ?_
  · exact (lad_at _ _ (by simp) _).to ((Below.refl _ _).alloc (Nat.le_refl _) _) (by simp)
  · exact ob_at _ _ (by simp) _
  rintro e w4 ⟨v, rfl, ⟨A, c, rfl, hN, hc1, hc2⟩, hb4⟩
  have t1 := two_to ((two_new w1 (.int .i64 0) (.int .i64 0) 26).alloc _) hb2
  have t12 := two_to (t1.alloc (.cells #[.int .i64 0, .int .i64 0] 26) |>.alloc _) hb3
  have t13 := two_to ((t12.alloc (.cells #[.int .i64 0, .int .i64 0] 26)).alloc _ |>.alloc _) hb4
  have t2 := two_to ((two_new w2 (.int .i64 0) (.int .i64 0) 26).alloc _) hb3
  have t23 := two_to ((t2.alloc (.cells #[.int .i64 0, .int .i64 0] 26)).alloc _ |>.alloc _) hb4
  have t3 := two_to ((two_new w3 (.int .i64 0) (.int .i64 0) 26).alloc _ |>.alloc _) hb4
  obtain ⟨_, g1, _, _, _⟩ := t13
  obtain ⟨_, g2, _, _, _⟩ := t23
  obtain ⟨_, g3, _, _, _⟩ := t3
  clear t1 t12 t2
  go_wp2_with fail
  refine (ints_zero _ _ _ _ ?_ ?_).mono ?_
  · exact hN.to (((Below.refl _ _).alloc (Nat.le_refl _) _).alloc (by simp) _) (by simp; omega)
  · exact zero_at _ _ (by simp) _
  rintro e w5 ⟨rfl, hb5⟩
  go_wp2_with fail
  refine (validate_bad _ _ ?_).mono ?_
  · exact bad_at _ _ (by simp) _
  rintro e w6 ⟨rfl, hb6⟩
  go_wp2_with (go_at_call 22; refine (at_any _ _ _).mono ?_; rintro e w7 ⟨rfl, hb7⟩)
  have z1 := hb1.size
  have z2 := hb2.size
  have z3 := hb3.size
  have z4 := hb4.size
  have z5 := hb5.size
  have z6 := hb6.size
  simp only [World.size_alloc] at z1 z2 z3 z4 z5 z6
  have y1 : Below w.heap.size w w1 := ((Below.refl _ w).alloc (Nat.le_refl _) _).trans (hb1.mono (by simp))
  have y2 : Below w.heap.size w w2 := ((y1.alloc (by omega) _).alloc (by simp; omega) _).trans (hb2.mono (by simp; omega))
  have y3 : Below w.heap.size w w3 := ((y2.alloc (by omega) _).alloc (by simp; omega) _).trans (hb3.mono (by simp; omega))
  have y4 : Below w.heap.size w w4 := (((y3.alloc (by omega) _).alloc (by simp; omega) _).alloc (by simp; omega) _).trans (hb4.mono (by simp; omega))
  have y5 : Below w.heap.size w w5 := ((y4.alloc (by omega) _).alloc (by simp; omega) _).trans (hb5.mono (by simp; omega))
  have y6 : Below w.heap.size w w6 := (y5.alloc (by omega) _).trans (hb6.mono (by simp; omega))
  have y7 : Below w.heap.size w w7 := y6.trans (hb7.mono (by omega))
  go_ret
  exact ⟨rfl, y7⟩

end Go.Proofs.Ytjmkilmpfaapbaa
