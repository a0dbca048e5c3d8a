/- Validate of package types, and the reference's TypesFault. -/
import Derived.Test.YtjmkilmpfaapbaaTcode
import Derived.StillTailTactics
namespace Go.Proofs.Ytjmkilmpfaapbaa
open Go.RowKit
set_option linter.unusedSimpArgs false
set_option linter.unusedVariables false
set_option maxRecDepth 100000

abbrev faultV (f : Int × Int) : Value := .agg #[.int .i64 f.1, .int .i64 f.2]
/-- The first index whose code is not 0, with its code. -/
def firstF (code pos : Nat → Int) (n : Nat) : Int × Int := match (List.range n).find? (fun i => code i != 0) with | some i => (code i, pos i) | none => (0, 0)
def tyCode (ts : List Ent) (i : Nat) : Int := ecode true i (ts.take i) (nm ts i) (pr ts i)
def natPos (i : Nat) : Int := i
def tyFault (ts : List Ent) : Int × Int := if 8 < ts.length then (2, -1) else firstF (tyCode ts) natPos ts.length

theorem firstF_hit {code pos : Nat → Int} {n k : Nat} (hk : k < n) (h : code k ≠ 0) (hj : ∀ j, j < k → code j = 0) : firstF code pos n = (code k, pos k) := by
  unfold firstF
  have : (List.range n).find? (fun i => code i != 0) = some k := by
    rw [List.find?_range_eq_some]
    refine ⟨by simpa using h, by simpa using hk, fun j hjk => ?_⟩
    simp [hj j hjk]
  rw [this]
theorem firstF_miss {code pos : Nat → Int} {n : Nat} (hj : ∀ j, j < n → code j = 0) : firstF code pos n = (0, 0) := by
  unfold firstF
  have : (List.range n).find? (fun i => code i != 0) = none := by
    rw [List.find?_eq_none]
    intro j h
    simp [hj j (by simpa using h)]
  rw [this]
theorem code_step {code : Nat → Int} {k : Nat} (h : ∀ j, j < k → code j = 0) (hk : code k = 0) : ∀ j, j < k + 1 → code j = 0 := by
  intro j hj
  by_cases e : j = k
  · subst e; exact hk
  · exact h j (by omega)
theorem ret_val {a b : Value} (h : a = b) : Ending.returned a = Ending.returned b := by rw [h]

theorem codeAt (b o c : Nat) (ts : List Ent) (k : Nat) (W : World) (hE : Ents W W.heap.size (some ⟨b, o, none⟩) ts) (hn : ts.length ≤ maxLen) (hk : k < ts.length) (hl : (nm ts k).size ≤ maxLen) :
    Calls Try.prog 23 #[.slice (some ⟨b, o, none⟩) k c, .agg #[.string (nm ts k), .int .i64 (pr ts k)]] W fun e w' => e = .returned (.int .i64 (tyCode ts k)) ∧ Below W.heap.size W w' := by
  have hlen : (ts.take k).length = k := by rw [List.length_take]; omega
  have h := typeCode_any (some ⟨b, o, none⟩) c (ts.take k) (nm ts k) (pr ts k) W (hE.take k) (by omega) hl
  rw [hlen] at h
  exact h

set_option maxHeartbeats 1000000 in
theorem validate_any (A : Option Addr) (c : Nat) (ts : List Ent) (w : World) (hE : Ents w w.heap.size A ts) (hn : ts.length ≤ maxLen) (hcap : ts.length ≤ c) (hcm : c ≤ maxLen) :
    Calls Try.prog 8 #[.slice A ts.length c] w fun e w' => e = .returned (.agg #[.int .i64 (tyFault ts).1, .int .i64 (tyFault ts).2]) ∧ Below w.heap.size w w' := by
  unfold maxLen at hn hcm
  have HE := Lib.hid hE
  clear hE
  by_cases h8 : 8 < ts.length
  · have H := Lib.hid (show tyFault ts = (2, -1) by simp [tyFault, h8])
    go_enter Try.func8, Try.ntmps8
    go_wp2
    go_returns
    exact ⟨ret_val (by rw [H.out]), by go_grown⟩
  · have H := Lib.hid (show tyFault ts = firstF (tyCode ts) natPos ts.length by simp [tyFault, h8])
    go_enter Try.func8, Try.ntmps8
    go_wp2
    go_loopw [12] (fun i wr => ∃ k : Nat, k ≤ ts.length ∧ i = .int .i64 k ∧ Below w.heap.size w wr ∧ Two wr w.heap.size (.int .i64 0) (.int .i64 0) ∧ ∀ j, j < k → tyCode ts j = 0) (fun i _ => ts.length - (intOf i).toNat)
    case atStart => exact ⟨0, by omega, rfl, by go_grown, ⟨by simp, by simp, by simp, by simp, by simp⟩, by omega⟩
    case round =>
      obtain ⟨k, hk, rfl, hbw, htwo, hj⟩ := hrel
      have HJ := Lib.hid hj
      clear hj
      have HB := Lib.hid hbw
      clear hbw
      have HT := Lib.hid htwo
      clear htwo
      by_cases hlt : k < ts.length
      · obtain ⟨b, o, rfl, hbl, hs, hp, hl⟩ := (HE.out.below HB.out).at_ hlt
        go_wp2
        have hkc : (k : Int) ≤ c := by omega
        generalize hW : wr.alloc (.cells #[.string (nm ts k), .int .i64 (pr ts k)] 47) = w1
        have hB1 : Below w.heap.size w w1 := by rw [← hW]; exact HB.out.alloc HB.out.size _
        have hz1 : w1.heap.size = wr.heap.size + 1 := by rw [← hW]; simp
        have hc2 : w1.cell? ⟨wr.heap.size, 0, none⟩ = some (.string (nm ts k)) := by rw [← hW]; simp
        have hc3 : w1.cell? ⟨wr.heap.size, 1, none⟩ = some (.int .i64 (pr ts k)) := by rw [← hW]; simp
        have HZ := Lib.hid hz1
        have HB1 := Lib.hid hB1
        have HW := Lib.hid hW
        clear hz1 hB1 hW
        refine wp_region_still_tail 4 (by kernel_rfl) (by kernel_rfl) ?_
        simp only [List.take_succ_cons, List.take_zero, List.drop_succ_cons, List.drop_zero]
        change wpStill _ _ w1.drew _ _ _
        repeat still_step
        try refine wpStill_nil ?_
        change wpList _ _ _ _ _ w1.drew
        have hcall := codeAt b o c ts k w1.drew (HE.out.to (B' := w1.drew.heap.size) HB1.out.drew (by have := HZ.out; have := HB.out.size; show _ ≤ w1.heap.size; omega)) (by unfold maxLen; omega) hlt hl
        have h2 : ∀ w', Below w1.drew.heap.size w1.drew w' → Below w.heap.size w w' ∧ Two w' w.heap.size (.int .i64 0) (.int .i64 0) := fun w' hbw => by
          have e1 : wr.heap.size ≤ w1.drew.heap.size := by have := HZ.out; show _ ≤ w1.heap.size; omega
          have e2 := HT.out.lt
          refine ⟨HB1.out.drew.trans (hbw.mono (by omega)), ?_⟩
          have : Below wr.heap.size wr w1 := by rw [← HW.out]; exact (Below.refl _ _).alloc (Nat.le_refl _) _
          exact (HT.out.to this.drew (by omega)).to hbw (by omega)
        have H2 := Lib.hid h2
        clear h2
        by_cases hcode : tyCode ts k = 0
        · have H0 := Lib.hid hcode
          have hne : (tyCode ts k != 0) = false := by simpa using hcode
          clear hcode
          go_wp2_with (go_at_call 23; refine hcall.mono ?_; rintro e w' ⟨rfl, hbw⟩)
          go_roundw
          case rel => exact ⟨k + 1, by omega, by go_num, (H2.out _ hbw).1, (H2.out _ hbw).2, code_step HJ.out H0.out⟩
          case measure => simp [intOf]; omega
        · have H0 := Lib.hid hcode
          have hne : (tyCode ts k != 0) = true := by simpa using hcode
          clear hcode
          go_wp2_with (go_at_call 23; refine hcall.mono ?_; rintro e w' ⟨rfl, hbw⟩; obtain ⟨_, c0, c1, f0, f1⟩ := (H2.out _ hbw).2)
          have TW := (H2.out _ hbw).2.set (.int .i64 (tyCode ts k)) (.int .i64 k)
          have BW := Lib.hid ((((H2.out _ hbw).1.setCell (p := ⟨w.heap.size, 0, none⟩) (Nat.le_refl _) (.int .i64 (tyCode ts k))).setCell (p := ⟨w.heap.size, 1, none⟩) (Nat.le_refl _) (.int .i64 k)))
          generalize (w'.setCell ⟨w.heap.size, 0, none⟩ (.int .i64 (tyCode ts k))).setCell ⟨w.heap.size, 1, none⟩ (.int .i64 k) = wf at TW BW ⊢
          obtain ⟨_, d0, d1, _, _⟩ := TW
          refine bodyPost_ret (v := faultV (tyCode ts k, natPos k)) (by simp [results, Try.results8, go_sem, d0, d1, faultV, natPos]) rfl ?_
          exact ⟨ret_val (by rw [H.out, firstF_hit hlt H0.out HJ.out]), BW.out⟩
      · have hge : ¬ ((k : Int) < ts.length) := by omega
        obtain ⟨_, c0, c1, f0, f1⟩ := HT.out
        go_wp2
        have TW := HT.out.set (.int .i64 0) (.int .i64 0)
        have BW := Lib.hid ((HB.out.setCell (p := ⟨w.heap.size, 0, none⟩) (Nat.le_refl _) (.int .i64 0)).setCell (p := ⟨w.heap.size, 1, none⟩) (Nat.le_refl _) (.int .i64 0))
        generalize (wr.setCell ⟨w.heap.size, 0, none⟩ (.int .i64 0)).setCell ⟨w.heap.size, 1, none⟩ (.int .i64 0) = wf at TW BW ⊢
        obtain ⟨_, d0, d1, _, _⟩ := TW
        refine bodyPost_ret (v := faultV (0, 0)) (by simp [results, Try.results8, go_sem, d0, d1, faultV]) rfl ?_
        exact ⟨ret_val (by rw [H.out, firstF_miss (fun j hj => HJ.out j (by omega))]), BW.out⟩

end Go.Proofs.Ytjmkilmpfaapbaa
