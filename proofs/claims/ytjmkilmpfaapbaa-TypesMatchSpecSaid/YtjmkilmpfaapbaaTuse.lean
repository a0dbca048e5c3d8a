/- UsedFault of the reference, validateWith of package types. -/
import Derived.Test.YtjmkilmpfaapbaaTref
namespace Go.Proofs.Ytjmkilmpfaapbaa
open Go.RowKit
set_option linter.unusedSimpArgs false
set_option linter.unusedVariables false
set_option maxRecDepth 100000

def ix (xs : List Int) (k : Nat) : Int := xs.getD k 0
/-- The numbers xs stand in the slice at A, below block B. -/
def Nums (w : World) (B : Nat) (A : Option Addr) (xs : List Int) : Prop :=
  0 < xs.length → ∃ b o, A = some ⟨b, o, none⟩ ∧ b < B ∧ ∀ k, k < xs.length → w.cell? ⟨b, o + k, none⟩ = some (.int .i64 (ix xs k))
section
variable {w w' : World} {B B' : Nat} {A : Option Addr} {xs : List Int}
theorem Nums.to (h : Nums w B A xs) (hb : Below B w w') (hB : B ≤ B') : Nums w' B' A xs := by
  intro h0
  obtain ⟨b, o, hA, hlt, hc⟩ := h h0
  exact ⟨b, o, hA, by omega, fun k hk => (hb.cell (p := ⟨b, o + k, none⟩) hlt).trans (hc k hk)⟩
theorem Nums.at_ (h : Nums w B A xs) {k : Nat} (hk : k < xs.length) : ∃ b o, A = some ⟨b, o, none⟩ ∧ b < B ∧ w.cell? ⟨b, o + k, none⟩ = some (.int .i64 (ix xs k)) := by
  obtain ⟨b, o, hA, hlt, hc⟩ := h (by omega)
  exact ⟨b, o, hA, hlt, hc k hk⟩
end

theorem tyFault_zero {ts : List Ent} (h : (tyFault ts).1 = 0) : tyFault ts = (0, 0) := by
  unfold tyFault at h ⊢
  split
  · rename_i h8; rw [if_pos h8] at h; cases h
  · rename_i h8
    rw [if_neg h8] at h
    unfold firstF at h ⊢
    cases e : (List.range ts.length).find? (fun i => tyCode ts i != 0) with
    | none => rfl
    | some i =>
      rw [e] at h
      have := List.find?_some e
      simp at this
      exact absurd h this

/-- The fault of types with the numbers of types xs. -/
def usedF (ts : List Ent) (xs : List Int) : Int × Int := if (tyFault ts).1 ≠ 0 then tyFault ts else if xs.all (istB ts.length) then (0, 0) else (3, -2)


set_option maxHeartbeats 1000000 in
theorem usedFault_any (A : Option Addr) (c : Nat) (ts : List Ent) (a b : Int) (w : World) (hE : Ents w w.heap.size A ts) (hn : ts.length ≤ maxLen) :
    Calls Try.prog 10 #[.slice A ts.length c, .int .i64 a, .int .i64 b] w fun e w' => e = .returned (.agg #[.int .i64 (usedF ts [a, b]).1, .int .i64 (usedF ts [a, b]).2]) ∧ Below w.heap.size w w' := by
  have hcall := typesFault_any A c ts (w.alloc (.cells #[.int .i64 0, .int .i64 0] 26)) (hE.to ((Below.refl _ w).alloc (Nat.le_refl _) _) (by simp)) hn
  clear hE
  unfold maxLen at hn
  have HT := Lib.hid (two_new w (.int .i64 0) (.int .i64 0) 26)
  have hia := istB_in ts.length a
  have hib := istB_in ts.length b
  cases h0 : ((tyFault ts).1 == 0)
  · have H := Lib.hid (show usedF ts [a, b] = tyFault ts by simp at h0; simp [usedF, h0])
    go_enter Try.func10, Try.ntmps10
    go_wp2_with (go_at_call 9; refine hcall.mono ?_; rintro e w' ⟨rfl, hbw⟩; have tw := two_to HT.out hbw; obtain ⟨_, k0, k1, kf0, kf1⟩ := tw)
    have tw := two_to HT.out hbw
    refine post_fault (g := w.heap.size) (x := (.int .i64 (tyFault ts).1)) (y := (.int .i64 (tyFault ts).2)) Try.results10 rfl ?_ ?_
    · repeat' (first | (with_reducible assumption) | (with_reducible exact Two.pair ‹_›) | (with_reducible refine Pair.set ?_ _ _) | (with_reducible refine Two.alloc ?_ _) | (with_reducible refine Pair.alloc ?_ _) | (with_reducible refine Two.far ?_ ?_ _) | (with_reducible refine Pair.far ?_ ?_ _) | (simp; omega))
    · refine ⟨ret_val (by rw [H.out]), ?_⟩
      have hbase : Below w.heap.size w w' := ((Below.refl _ w).alloc (Nat.le_refl _) _).trans (hbw.mono (by simp))
      go_grown
  · have H1 := Lib.hid (show tyFault ts = (0, 0) from tyFault_zero (by simpa using h0))
    cases ha : istB ts.length a
    · have H := Lib.hid (show usedF ts [a, b] = (3, -2) by simp at h0; simp [usedF, h0, ha])
      rw [ha] at hia
      go_enter Try.func10, Try.ntmps10
      go_wp2_with (first | (go_at_call 9; refine hcall.mono ?_; rintro e w' ⟨rfl, hbw⟩; have tw := two_to HT.out hbw; obtain ⟨_, k0, k1, kf0, kf1⟩ := tw) | (go_at_call 25; refine (in_any _ _ _ _).mono ?_; rintro e w' ⟨rfl, rfl⟩) | (go_at_call 22; refine (at_any _ _ _).mono ?_; rintro e w2 ⟨rfl, hbw2⟩; have tm := two_to (two_to (two_to HT.out hbw) ((Below.refl _ w').alloc (Nat.le_refl _) (.cells #[.int .i64 (tyFault ts).1, .int .i64 (tyFault ts).2] 26))) hbw2; have tq := two_to (two_new w' (.int .i64 (tyFault ts).1) (.int .i64 (tyFault ts).2) 26) hbw2; obtain ⟨_, m0, m1, mf0, mf1⟩ := tm; obtain ⟨_, q0, q1, qf0, qf1⟩ := tq))
      have hle := hbw2.size
      have tw : Two w2 w.heap.size _ _ := ⟨‹_›, m0, m1, mf0, mf1⟩
      refine post_fault (g := w.heap.size) (x := (.int .i64 3)) (y := (.int .i64 (-2))) Try.results10 rfl ?_ ?_
      · repeat' (first | (with_reducible assumption) | (with_reducible exact Two.pair ‹_›) | (with_reducible refine Pair.set ?_ _ _) | (with_reducible refine Two.alloc ?_ _) | (with_reducible refine Pair.alloc ?_ _) | (with_reducible refine Two.far ?_ ?_ _) | (with_reducible refine Pair.far ?_ ?_ _) | (simp; omega))
      · refine ⟨ret_val (by rw [H.out]), ?_⟩
        have hbase : Below w.heap.size w w2 := ((((Below.refl _ w).alloc (Nat.le_refl _) _).trans (hbw.mono (by simp))).alloc (by omega) (.cells #[.int .i64 (tyFault ts).1, .int .i64 (tyFault ts).2] 26)).trans (hbw2.mono (by simp; omega))
        go_grown
    · rw [ha] at hia
      cases hb : istB ts.length b
      · have H := Lib.hid (show usedF ts [a, b] = (3, -2) by simp at h0; simp [usedF, h0, ha, hb])
        rw [hb] at hib
        go_enter Try.func10, Try.ntmps10
        go_wp2_with (first | (go_at_call 9; refine hcall.mono ?_; rintro e w' ⟨rfl, hbw⟩; have tw := two_to HT.out hbw; obtain ⟨_, k0, k1, kf0, kf1⟩ := tw) | (go_at_call 25; refine (in_any _ _ _ _).mono ?_; rintro e w' ⟨rfl, rfl⟩) | (go_at_call 22; refine (at_any _ _ _).mono ?_; rintro e w2 ⟨rfl, hbw2⟩; have tm := two_to (two_to (two_to HT.out hbw) ((Below.refl _ w').alloc (Nat.le_refl _) (.cells #[.int .i64 (tyFault ts).1, .int .i64 (tyFault ts).2] 26))) hbw2; have tq := two_to (two_new w' (.int .i64 (tyFault ts).1) (.int .i64 (tyFault ts).2) 26) hbw2; obtain ⟨_, m0, m1, mf0, mf1⟩ := tm; obtain ⟨_, q0, q1, qf0, qf1⟩ := tq))
        have hle := hbw2.size
        have tw : Two w2 w.heap.size _ _ := ⟨‹_›, m0, m1, mf0, mf1⟩
        refine post_fault (g := w.heap.size) (x := (.int .i64 3)) (y := (.int .i64 (-2))) Try.results10 rfl ?_ ?_
        · repeat' (first | (with_reducible assumption) | (with_reducible exact Two.pair ‹_›) | (with_reducible refine Pair.set ?_ _ _) | (with_reducible refine Two.alloc ?_ _) | (with_reducible refine Pair.alloc ?_ _) | (with_reducible refine Two.far ?_ ?_ _) | (with_reducible refine Pair.far ?_ ?_ _) | (simp; omega))
        · refine ⟨ret_val (by rw [H.out]), ?_⟩
          have hbase : Below w.heap.size w w2 := ((((Below.refl _ w).alloc (Nat.le_refl _) _).trans (hbw.mono (by simp))).alloc (by omega) (.cells #[.int .i64 (tyFault ts).1, .int .i64 (tyFault ts).2] 26)).trans (hbw2.mono (by simp; omega))
          go_grown
      · have H := Lib.hid (show usedF ts [a, b] = (0, 0) by simp at h0; simp [usedF, h0, ha, hb])
        rw [hb] at hib
        go_enter Try.func10, Try.ntmps10
        go_wp2_with (first | (go_at_call 9; refine hcall.mono ?_; rintro e w' ⟨rfl, hbw⟩; have tw := two_to HT.out hbw; obtain ⟨_, k0, k1, kf0, kf1⟩ := tw) | (go_at_call 25; refine (in_any _ _ _ _).mono ?_; rintro e w' ⟨rfl, rfl⟩))
        have tw := two_to HT.out hbw
        refine post_fault (g := w.heap.size) (x := (.int .i64 (tyFault ts).1)) (y := (.int .i64 (tyFault ts).2)) Try.results10 rfl ?_ ?_
        · repeat' (first | (with_reducible assumption) | (with_reducible exact Two.pair ‹_›) | (with_reducible refine Pair.set ?_ _ _) | (with_reducible refine Two.alloc ?_ _) | (with_reducible refine Pair.alloc ?_ _) | (with_reducible refine Two.far ?_ ?_ _) | (with_reducible refine Pair.far ?_ ?_ _) | (simp; omega))
        · refine ⟨ret_val (by rw [H.out, H1.out]), ?_⟩
          have hbase : Below w.heap.size w w' := ((Below.refl _ w).alloc (Nat.le_refl _) _).trans (hbw.mono (by simp))
          go_grown

end Go.Proofs.Ytjmkilmpfaapbaa
