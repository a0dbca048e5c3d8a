/- The reference's TypesFault and UsedFault. -/
import Derived.Test.YtjmkilmpfaapbaaTval
import Derived.Deep.QuietTactic
import Derived.BigQuiet
namespace Go.Proofs.Ytjmkilmpfaapbaa
open Go.RowKit
set_option linter.unusedSimpArgs false
set_option linter.unusedVariables false
set_option maxRecDepth 100000


set_option maxHeartbeats 400000 in
theorem at_any (x a : Int) (w : World) :
    Calls Try.prog 22 #[.int .i64 x, .int .i64 a] w fun e w' => e = .returned (.agg #[.int .i64 x, .int .i64 a]) ∧ Below w.heap.size w w' := by
  go_enter Try.func22, Try.ntmps22
  go_wp2
  go_returns
  exact ⟨rfl, by go_grown⟩

theorem at_keep (x a : Int) (w : World) (g : Nat) (u v : Value) (h : Two w g u v) :
    Calls Try.prog 22 #[.int .i64 x, .int .i64 a] w fun e w' => e = .returned (.agg #[.int .i64 x, .int .i64 a]) ∧ Below w.heap.size w w' ∧ Two w' g u v :=
  (at_any x a w).mono fun _ _ ⟨he, hb⟩ => ⟨he, hb, h.to hb h.lt⟩

theorem tyCode_12a {ts : List Ent} {k : Nat} (h : nameB (nm ts k) = false) : tyCode ts k = 12 := ecode_12a h
theorem tyCode_12b {ts : List Ent} {k : Nat} (h : eqB (nm ts k) objS = true) : tyCode ts k = 12 := ecode_12b h
theorem tyCode_rest {ts : List Ent} {k : Nat} (h : nameB (nm ts k) = true) (h2 : eqB (nm ts k) objS = false) : tyCode ts k = if hasN (ts.take k) (nm ts k) then 7 else if !istB k (pr ts k) then 3 else 0 := ecode_rest h (by simpa using h2)
theorem hasN_hit {ts : List Ent} {k j : Nat} (hk : k ≤ ts.length) (hj : j < k) (s : ByteArray) (h : eqB (nm ts j) s = true) : hasN (ts.take k) s = true := by
  unfold hasN
  rw [List.any_eq_true]
  refine ⟨j, ?_, ?_⟩
  · rw [List.mem_range, List.length_take]; omega
  · rw [nm_take j hj]; exact h
theorem hasN_miss {ts : List Ent} {k : Nat} (s : ByteArray) (h : ∀ j, j < k → eqB (nm ts j) s = false) : hasN (ts.take k) s = false := by
  unfold hasN
  rw [List.any_eq_false]
  intro j hj
  rw [List.mem_range, List.length_take] at hj
  rw [nm_take j (by omega)]
  simp [h j (by omega)]
theorem istB_in (k : Nat) (p : Int) : inB p (-1) ((k : Int) - 1) = istB k p := by
  unfold inB istB
  rw [decide_eq_decide]
  omega

set_option maxHeartbeats 1000000 in
theorem typesFault_any (A : Option Addr) (c : Nat) (ts : List Ent) (w : World) (hE : Ents w w.heap.size A ts) (hn : ts.length ≤ maxLen) :
    Calls Try.prog 9 #[.slice A ts.length c] w fun e w' => e = .returned (.agg #[.int .i64 (tyFault ts).1, .int .i64 (tyFault ts).2]) ∧ Below w.heap.size w w' := by
  unfold maxLen at hn
  have HE := Lib.hid hE
  clear hE
  by_cases h8 : 8 < ts.length
  · have H := Lib.hid (show tyFault ts = (2, -1) by simp [tyFault, h8])
    have hT := two_new w (.int .i64 0) (.int .i64 0) 26
    go_enter Try.func9, Try.ntmps9
    go_wp2_with (go_at_call 22; refine (at_keep _ _ _ _ _ _ hT).mono ?_; rintro e w' ⟨rfl, hbw, htw⟩; obtain ⟨_, k0, k1, kf0, kf1⟩ := htw)
    have TW := ((⟨‹_›, k0, k1, kf0, kf1⟩ : Two w' w.heap.size _ _)).set (.int .i64 2) (.int .i64 (-1))
    have BW := Lib.hid (((((Below.refl _ w).alloc (Nat.le_refl _) _).trans (hbw.mono (by simp))).setCell (p := ⟨w.heap.size, 0, none⟩) (Nat.le_refl _) (.int .i64 2)).setCell (p := ⟨w.heap.size, 1, none⟩) (Nat.le_refl _) (.int .i64 (-1)))
    generalize (w'.setCell ⟨w.heap.size, 0, none⟩ (.int .i64 2)).setCell ⟨w.heap.size, 1, none⟩ (.int .i64 (-1)) = wf at TW BW ⊢
    obtain ⟨_, d0, d1, _, _⟩ := TW
    refine bodyPost_ret (v := faultV (2, -1)) (by simp [results, Try.results9, go_sem, d0, d1]) rfl ?_
    exact ⟨ret_val (by rw [H.out]), BW.out⟩
  · have H := Lib.hid (show tyFault ts = firstF (tyCode ts) natPos ts.length by simp [tyFault, h8])
    go_enter Try.func9, Try.ntmps9
    go_wp2
    go_loopw [3] (fun i wr => ∃ k : Nat, k ≤ ts.length ∧ i = .int .i64 k ∧ Below w.heap.size w wr ∧ Two wr w.heap.size (.int .i64 0) (.int .i64 0) ∧ ∀ j, j < k → tyCode ts j = 0) (fun i _ => ts.length - (intOf i).toNat)
    case atStart => exact ⟨0, by omega, rfl, by go_grown, ⟨by simp, by simp, by simp, by simp, by simp⟩, by omega⟩
    case round =>
      obtain ⟨k, hk, rfl, hbw, htwo, hj⟩ := hrel
      have HJ := Lib.hid hj
      clear hj
      have HB := Lib.hid hbw
      clear hbw
      have HT := Lib.hid htwo
      clear htwo
      by_cases hlt : k < ts.length
      · obtain ⟨b, o, rfl, hbl, hs, hp, hl⟩ := (HE.out.below HB.out).at_ hlt
        cases h1 : nameB (nm ts k)
        · have H0 := Lib.hid (tyCode_12a h1)
          go_wp2_with (first
            | (go_at_call 24; refine (name_any _ hl _).mono ?_; rintro e w' ⟨rfl, rfl⟩)
            | (go_at_call 22; refine (at_keep _ _ _ _ _ _ HT.out).mono ?_; rintro e w' ⟨rfl, hbw, htw⟩; obtain ⟨_, k0, k1, kf0, kf1⟩ := htw))
          have TW := ((⟨‹_›, k0, k1, kf0, kf1⟩ : Two w' w.heap.size _ _)).set (.int .i64 12) (.int .i64 k)
          have BW := Lib.hid (((HB.out.trans (hbw.mono HB.out.size)).setCell (p := ⟨w.heap.size, 0, none⟩) (Nat.le_refl _) (.int .i64 12)).setCell (p := ⟨w.heap.size, 1, none⟩) (Nat.le_refl _) (.int .i64 k))
          generalize (w'.setCell ⟨w.heap.size, 0, none⟩ (.int .i64 12)).setCell ⟨w.heap.size, 1, none⟩ (.int .i64 k) = wf at TW BW ⊢
          obtain ⟨_, d0, d1, _, _⟩ := TW
          refine bodyPost_ret (v := faultV (12, k)) (by simp [results, Try.results9, go_sem, d0, d1]) rfl ?_
          exact ⟨ret_val (by rw [H.out, firstF_hit hlt (by rw [H0.out]; decide) HJ.out, H0.out]; rfl), BW.out⟩
        · cases h2 : ((nm ts k).toList == [111, 98, 106, 101, 99, 116])
          case true =>
            have H0 := Lib.hid (tyCode_12b ((eqB_obj _).trans h2))
            go_wp2_with (first
              | (go_at_call 24; refine (name_any _ hl _).mono ?_; rintro e w' ⟨rfl, rfl⟩)
              | (go_at_call 22; refine (at_keep _ _ _ _ _ _ HT.out).mono ?_; rintro e w' ⟨rfl, hbw, htw⟩; obtain ⟨_, k0, k1, kf0, kf1⟩ := htw))
            have TW := ((⟨‹_›, k0, k1, kf0, kf1⟩ : Two w' w.heap.size _ _)).set (.int .i64 12) (.int .i64 k)
            have BW := Lib.hid (((HB.out.trans (hbw.mono HB.out.size)).setCell (p := ⟨w.heap.size, 0, none⟩) (Nat.le_refl _) (.int .i64 12)).setCell (p := ⟨w.heap.size, 1, none⟩) (Nat.le_refl _) (.int .i64 k))
            generalize (w'.setCell ⟨w.heap.size, 0, none⟩ (.int .i64 12)).setCell ⟨w.heap.size, 1, none⟩ (.int .i64 k) = wf at TW BW ⊢
            obtain ⟨_, d0, d1, _, _⟩ := TW
            refine bodyPost_ret (v := faultV (12, k)) (by simp [results, Try.results9, go_sem, d0, d1]) rfl ?_
            exact ⟨ret_val (by rw [H.out, firstF_hit hlt (by rw [H0.out]; decide) HJ.out, H0.out]; rfl), BW.out⟩
          case false =>
            have HC := Lib.hid (tyCode_rest h1 ((eqB_obj _).trans h2))
            go_wp2_with (go_at_call 24; refine (name_any _ hl _).mono ?_; rintro e w' ⟨rfl, rfl⟩)
            clear hs hp
            go_loopw [4] (fun i wq => ∃ j : Nat, j ≤ k ∧ i = .int .i64 j ∧ Below w.heap.size w wq ∧ Two wq w.heap.size (.int .i64 0) (.int .i64 0) ∧ ∀ j', j' < j → eqB (nm ts j') (nm ts k) = false) (fun i _ => k - (intOf i).toNat)
            case atStart => exact ⟨0, by omega, rfl, HB.out, HT.out, by omega⟩
            case round =>
              obtain ⟨j, hjk, rfl, hbq, htq, hjj⟩ := hrel
              have HJJ := Lib.hid hjj
              clear hjj
              have HBQ := Lib.hid hbq
              clear hbq
              have HTQ := Lib.hid htq
              clear htq
              obtain ⟨b', o', e', _, hsk, hpk, _⟩ := (HE.out.below HBQ.out).at_ hlt
              obtain ⟨rfl, rfl⟩ : b' = b ∧ o' = o := by injection e' with e'; injection e' with e1 e2; exact ⟨e1.symm, e2.symm⟩
              clear e'
              by_cases hlj : j < k
              · obtain ⟨b2, o2, e2, _, hsj, _, _⟩ := (HE.out.below HBQ.out).at_ (show j < ts.length by omega)
                obtain ⟨rfl, rfl⟩ : b2 = b' ∧ o2 = o' := by injection e2 with e2; injection e2 with e1 e2; exact ⟨e1.symm, e2.symm⟩
                clear e2
                cases he : ((nm ts j).toList == (nm ts k).toList)
                · have HEQ := Lib.hid (show eqB (nm ts j) (nm ts k) = false from he)
                  go_wp2
                  go_quiet (fail)
                  go_wp2
                  go_roundw
                  case rel => exact ⟨j + 1, by omega, by go_num, belowN HBQ.out _, twoN HTQ.out _, idx_step HJJ.out HEQ.out⟩
                  case measure => simp [intOf]; omega
                · have HEQ := Lib.hid (show eqB (nm ts j) (nm ts k) = true from he)
                  go_wp2
                  go_quiet (fail)
                  have H0 := Lib.hid (show tyCode ts k = 7 by rw [HC.out, hasN_hit hk hlj _ HEQ.out]; rfl)
                  go_wp2_with (go_at_call 22; refine (at_keep _ _ _ _ _ _ (twoN HTQ.out _)).mono ?_; rintro e w' ⟨rfl, hbw, htw⟩; obtain ⟨_, k0, k1, kf0, kf1⟩ := htw)
                  have TW := ((⟨‹_›, k0, k1, kf0, kf1⟩ : Two w' w.heap.size _ _)).set (.int .i64 7) (.int .i64 k)
                  have BW := Lib.hid ((((belowN HBQ.out _).trans (hbw.mono HBQ.out.size)).setCell (p := ⟨w.heap.size, 0, none⟩) (Nat.le_refl _) (.int .i64 7)).setCell (p := ⟨w.heap.size, 1, none⟩) (Nat.le_refl _) (.int .i64 k))
                  generalize (w'.setCell ⟨w.heap.size, 0, none⟩ (.int .i64 7)).setCell ⟨w.heap.size, 1, none⟩ (.int .i64 k) = wf at TW BW ⊢
                  obtain ⟨_, d0, d1, _, _⟩ := TW
                  refine bodyPost_ret (v := faultV (7, k)) (by simp [results, Try.results9, go_sem, d0, d1]) rfl ?_
                  exact ⟨ret_val (by rw [H.out, firstF_hit hlt (by rw [H0.out]; decide) HJ.out, H0.out]; rfl), BW.out⟩
              · have hz := istB_in k (pr ts k)
                cases hi : istB k (pr ts k)
                · rw [hi] at hz
                  have H0 := Lib.hid (show tyCode ts k = 3 by rw [HC.out, hasN_miss _ (fun j' hj' => HJJ.out j' (by omega)), hi]; rfl)
                  go_wp2_with (first
                    | (go_at_call 25; refine (in_any _ _ _ _).mono ?_; rintro e w' ⟨rfl, rfl⟩)
                    | (go_at_call 22; refine (at_keep _ _ _ _ _ _ HTQ.out).mono ?_; rintro e w' ⟨rfl, hbw, htw⟩; obtain ⟨_, k0, k1, kf0, kf1⟩ := htw))
                  have TW := ((⟨‹_›, k0, k1, kf0, kf1⟩ : Two w' w.heap.size _ _)).set (.int .i64 3) (.int .i64 k)
                  have BW := Lib.hid (((HBQ.out.trans (hbw.mono HBQ.out.size)).setCell (p := ⟨w.heap.size, 0, none⟩) (Nat.le_refl _) (.int .i64 3)).setCell (p := ⟨w.heap.size, 1, none⟩) (Nat.le_refl _) (.int .i64 k))
                  generalize (w'.setCell ⟨w.heap.size, 0, none⟩ (.int .i64 3)).setCell ⟨w.heap.size, 1, none⟩ (.int .i64 k) = wf at TW BW ⊢
                  obtain ⟨_, d0, d1, _, _⟩ := TW
                  refine bodyPost_ret (v := faultV (3, k)) (by simp [results, Try.results9, go_sem, d0, d1]) rfl ?_
                  exact ⟨ret_val (by rw [H.out, firstF_hit hlt (by rw [H0.out]; decide) HJ.out, H0.out]; rfl), BW.out⟩
                · rw [hi] at hz
                  have H0 := Lib.hid (show tyCode ts k = 0 by rw [HC.out, hasN_miss _ (fun j' hj' => HJJ.out j' (by omega)), hi]; rfl)
                  go_wp2_with (go_at_call 25; refine (in_any _ _ _ _).mono ?_; rintro e w' ⟨rfl, rfl⟩)
                  go_roundw
                  case rel => exact ⟨k + 1, by omega, by go_num, HBQ.out, HTQ.out, code_step HJ.out H0.out⟩
                  case measure => simp [intOf]; omega
      · have hge : ¬ ((k : Int) < ts.length) := by omega
        obtain ⟨_, c0, c1, f0, f1⟩ := HT.out
        go_wp2
        have TW := (HT.out).set (.int .i64 0) (.int .i64 0)
        have BW := Lib.hid (((HB.out).setCell (p := ⟨w.heap.size, 0, none⟩) (Nat.le_refl _) (.int .i64 0)).setCell (p := ⟨w.heap.size, 1, none⟩) (Nat.le_refl _) (.int .i64 0))
        generalize (wr.setCell ⟨w.heap.size, 0, none⟩ (.int .i64 0)).setCell ⟨w.heap.size, 1, none⟩ (.int .i64 0) = wf at TW BW ⊢
        obtain ⟨_, d0, d1, _, _⟩ := TW
        refine bodyPost_ret (v := faultV (0, 0)) (by simp [results, Try.results9, go_sem, d0, d1]) rfl ?_
        exact ⟨ret_val (by rw [H.out, firstF_miss (fun j hj => HJ.out j (by omega))]), BW.out⟩


end Go.Proofs.Ytjmkilmpfaapbaa
