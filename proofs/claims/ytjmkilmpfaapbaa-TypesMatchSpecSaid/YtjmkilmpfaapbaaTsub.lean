/- Sub of package types, and the law's own sub. -/
import Derived.Test.YtjmkilmpfaapbaaThas
import Derived.RegionTactic
namespace Go.Proofs.Ytjmkilmpfaapbaa
open Go.RowKit Go.Shelf
set_option linter.unusedSimpArgs false
set_option linter.unusedVariables false
set_option maxRecDepth 100000

theorem usedF_zero {ts : List Ent} {xs : List Int} (h : (usedF ts xs).1 = 0) : usedF ts xs = (0, 0) ∧ (tyFault ts).1 = 0 ∧ xs.all (istB ts.length) = true := by
  unfold usedF at h ⊢
  split at h
  · rename_i h1; exact absurd h h1
  · rename_i h1
    rw [if_neg h1]
    have h1 : (tyFault ts).1 = 0 := by simpa using h1
    split at h
    · rename_i h2; rw [if_pos h2]; exact ⟨rfl, h1, h2⟩
    · cases h
theorem istB_iff (n : Nat) (t : Int) : istB n t = true ↔ -1 ≤ t ∧ t < n := by unfold istB; simp

theorem has_any (A : Option Addr) (c : Nat) (ts : List Ent) (a b : Int) (ho : Ordered ts) (hlen : ts.length ≤ maxLen) (ha0 : -1 ≤ a) (han : a < ts.length) (w : World) (hE : Ents w w.heap.size A ts) :
    Calls Try.prog 27 #[.slice A ts.length c, .int .i64 a, .int .i64 b] w fun e W' => e = .returned (.bool (memB (sup ts a) b)) ∧ Below w.heap.size w W' :=
  callsIn_wide.1 (has_in Fence.wide 3 trivial trivial trivial rfl (by omega) A c ts a b ho hlen ha0 han w hE)

/-- What Sub returns besides the fault. -/
def subM (ts : List Ent) (a b : Int) : Bool := decide ((usedF ts [a, b]).1 = 0) && memB (sup ts a) b
theorem nums_new2 (w : World) (a b : Int) (t : TypeId) : Nums (w.alloc (.cells #[.int .i64 a, .int .i64 b] t)) (w.heap.size + 1) (some ⟨w.heap.size, 0, none⟩) [a, b] := by
  intro _
  refine ⟨w.heap.size, 0, rfl, by omega, fun k hk => ?_⟩
  match k, hk with
  | 0, _ => simp [ix]
  | 1, _ => simp [ix]
theorem nums_new1 (w : World) (a : Int) (t : TypeId) : Nums (w.alloc (.cells #[.int .i64 a] t)) (w.heap.size + 1) (some ⟨w.heap.size, 0, none⟩) [a] := by
  intro _
  refine ⟨w.heap.size, 0, rfl, by omega, fun k hk => ?_⟩
  match k, hk with
  | 0, _ => simp [ix]

set_option maxHeartbeats 1000000 in
theorem sub_any (A : Option Addr) (c : Nat) (ts : List Ent) (a b : Int) (w : World) (hE : Ents w w.heap.size A ts) (hn : ts.length ≤ maxLen) (hcap : ts.length ≤ c) (hcm : c ≤ maxLen) :
    Calls Try.prog 11 #[.slice A ts.length c, .int .i64 a, .int .i64 b] w fun e w' => e = .returned (.tuple #[.bool (subM ts a b), .agg #[.int .i64 (usedF ts [a, b]).1, .int .i64 (usedF ts [a, b]).2]]) ∧ Below w.heap.size w w' := by
  have hB1 : Below w.heap.size w ((w.alloc (.cells #[.int .i64 0, .int .i64 0] 26)).alloc (.cells #[.int .i64 a, .int .i64 b] 3)) := ((Below.refl _ w).alloc (Nat.le_refl _) _).alloc (by simp) _
  have hcall := with_any A c ts (some ⟨w.heap.size + 1, 0, none⟩) 2 [a, b] ((w.alloc (.cells #[.int .i64 0, .int .i64 0] 26)).alloc (.cells #[.int .i64 a, .int .i64 b] 3)) (hE.to hB1 (by simp; omega)) hn hcap hcm (by have := nums_new2 (w.alloc (.cells #[.int .i64 0, .int .i64 0] 26)) a b 3; simpa using this) (by simp [maxLen])
  have HE2 := Lib.hid (fun (W : World) (h : Below w.heap.size w W) => hE.to (B' := W.heap.size) h h.size)
  clear hE
  have HB1 := Lib.hid hB1
  clear hB1
  have HT := Lib.hid ((two_new w (.int .i64 0) (.int .i64 0) 26).alloc (.cells #[.int .i64 a, .int .i64 b] 3))
  by_cases h0 : (usedF ts [a, b]).1 = 0
  · obtain ⟨h1, h2, h3⟩ := usedF_zero h0
    have H1 := Lib.hid h1
    have HO := Lib.hid (ordered_of h2)
    have ⟨ha0, han⟩ : -1 ≤ a ∧ a < ts.length := (istB_iff _ _).1 (by simp at h3; exact h3.1)
    have HS := Lib.hid (show subM ts a b = memB (sup ts a) b by simp [subM, h0])
    rw [h1] at hcall
    clear h0 h1 h2 h3
    go_enter Try.func11, Try.ntmps11
    go_wp2_with (first | (go_at_call 26; refine hcall.mono ?_; rintro e w' ⟨rfl, hbw⟩; have tw := two_to HT.out hbw; obtain ⟨_, k0, k1, kf0, kf1⟩ := tw) | (go_at_call 27; refine (has_any _ c ts a b HO.out hn ha0 han _ (HE2.out _ ((HB1.out.trans (hbw.mono (by simp; omega))).alloc (by omega) _))).mono ?_; rintro e w2 ⟨rfl, hbw2⟩; have tm := two_to ((two_to HT.out hbw).alloc (.cells #[.int .i64 0, .int .i64 0] 26)) hbw2; obtain ⟨_, m0, m1, mf0, mf1⟩ := tm))
    have hle := hbw2.size
    have tw : Two w2 w.heap.size _ _ := ⟨‹_›, m0, m1, mf0, mf1⟩
    refine post_with_fault (g := w.heap.size) (x := (.int .i64 0)) (y := (.int .i64 0)) Try.results11 rfl ?_ ?_
    · repeat' (first | (with_reducible assumption) | (with_reducible exact Two.pair ‹_›) | (with_reducible refine Pair.set ?_ _ _) | (with_reducible refine Two.alloc ?_ _) | (with_reducible refine Pair.alloc ?_ _) | (with_reducible refine two1 ?_) | (with_reducible refine twoN ?_ _) | (with_reducible refine Pair.drew ?_) | (with_reducible refine Pair.drewN ?_ _) | (with_reducible refine Two.far ?_ ?_ _) | (with_reducible refine Pair.far ?_ ?_ _) | (simp; omega))
    · refine ⟨ret_val (by rw [HS.out, H1.out]; rfl), ?_⟩
      have hbase : Below w.heap.size w w2 := ((HB1.out.trans (hbw.mono (by simp; omega))).alloc (by omega) _).trans (hbw2.mono (by simp; omega))
      go_grown
  · have HS := Lib.hid (show subM ts a b = false by simp [subM, h0])
    have hne : ((usedF ts [a, b]).1 != 0) = true := by simpa using h0
    have hne2 : ((usedF ts [a, b]).1 == 0) = false := by simpa using h0
    clear h0
    go_enter Try.func11, Try.ntmps11
    go_wp2_with (first | (go_at_call 26; refine hcall.mono ?_; rintro e w' ⟨rfl, hbw⟩; have tw := two_to HT.out hbw; obtain ⟨_, k0, k1, kf0, kf1⟩ := tw))
    go_region
    all_goals
      go_wp2
      have tw : Two w' w.heap.size _ _ := ⟨‹_›, k0, k1, kf0, kf1⟩
      refine post_with_fault (g := w.heap.size) (x := (.int .i64 (usedF ts [a, b]).1)) (y := (.int .i64 (usedF ts [a, b]).2)) Try.results11 rfl ?_ ?_
      · repeat' (first | (with_reducible assumption) | (with_reducible exact Two.pair ‹_›) | (with_reducible refine Pair.set ?_ _ _) | (with_reducible refine Two.alloc ?_ _) | (with_reducible refine Pair.alloc ?_ _) | (with_reducible refine two1 ?_) | (with_reducible refine twoN ?_ _) | (with_reducible refine Pair.drew ?_) | (with_reducible refine Pair.drewN ?_ _) | (with_reducible refine Two.far ?_ ?_ _) | (with_reducible refine Pair.far ?_ ?_ _) | (simp; omega))
      · refine ⟨ret_val (by rw [HS.out]; rfl), ?_⟩
        have hbase : Below w.heap.size w w' := HB1.out.trans (hbw.mono (by simp; omega))
        go_grown


end Go.Proofs.Ytjmkilmpfaapbaa
