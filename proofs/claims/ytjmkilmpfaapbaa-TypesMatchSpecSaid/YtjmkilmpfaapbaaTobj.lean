/- Objects: their codes and faults, in package types and in the reference. -/
import Derived.Test.YtjmkilmpfaapbaaTref
namespace Go.Proofs.Ytjmkilmpfaapbaa
open Go.RowKit
set_option linter.unusedSimpArgs false
set_option linter.unusedVariables false
set_option maxRecDepth 100000

set_option maxHeartbeats 400000 in
theorem sameO_any (s n0 : ByteArray) (p : Int) (bx : Nat) (w : World) (hb : bx < w.heap.size) (hc : w.cell? ⟨bx, 0, none⟩ = some (.string n0)) :
    Calls Try.prog 40 #[.agg #[.string s, .int .i64 p], .pointer (some ⟨bx, 0, none⟩)] w fun e w' => e = .returned (.bool (eqB s n0)) ∧ Below w.heap.size w w' := by
  go_enter Try.func40, Try.ntmps40
  go_wp2
  go_ret
  exact ⟨rfl, by go_grown⟩

set_option maxHeartbeats 1000000 in
theorem indexO_any (A : Option Addr) (c : Nat) (ts : List Ent) (n0 : ByteArray) (bx : Nat) (w : World) (hE : Ents w w.heap.size A ts) (hn : ts.length ≤ maxLen)
    (hb : bx < w.heap.size) (hc : w.cell? ⟨bx, 0, none⟩ = some (.string n0)) :
    Calls Try.prog 42 #[.slice A ts.length c, .func (.func 40) #[] #[.pointer (some ⟨bx, 0, none⟩)]] w fun e w' => e = .returned (.int .i64 (idxN ts n0)) ∧ Below w.heap.size w w' := by
  unfold maxLen at hn
  have HE := Lib.hid hE
  clear hE
  have HC := Lib.hid hc
  clear hc
  go_enter Try.func42, Try.ntmps42
  go_wp2
  go_loopw [8] (fun i wr => ∃ k : Nat, k ≤ ts.length ∧ i = .int .i64 k ∧ Below w.heap.size w wr ∧ ∀ j, j < k → eqB (nm ts j) n0 = false) (fun i _ => ts.length - (intOf i).toNat)
  case atStart => exact ⟨0, by omega, rfl, Below.refl _ _, by omega⟩
  case round =>
    obtain ⟨k, hk, rfl, hbw, hj⟩ := hrel
    have HJ := Lib.hid hj
    clear hj
    have HB := Lib.hid hbw
    clear hbw
    by_cases hlt : k < ts.length
    · obtain ⟨b, o, rfl, hbl, hs, hp, hl⟩ := (HE.out.below HB.out).at_ hlt
      have hc : wr.cell? ⟨bx, 0, none⟩ = some (.string n0) := (HB.out.cell (p := ⟨bx, 0, none⟩) hb).trans HC.out
      have hb2 : bx < wr.heap.size := by have := HB.out.size; omega
      cases he : eqB (nm ts k) n0
      · have H1 := Lib.hid he
        go_wp2_with (go_at_call 40; refine (sameO_any _ _ _ _ _ hb2 hc).mono ?_; rintro e w' ⟨rfl, hbw⟩)
        go_roundw
        case rel => exact ⟨k + 1, by omega, by go_num, HB.out.trans (hbw.mono HB.out.size), idx_step HJ.out H1.out⟩
        case measure => simp [intOf]; omega
      · have H1 := Lib.hid he
        go_wp2_with (go_at_call 40; refine (sameO_any _ _ _ _ _ hb2 hc).mono ?_; rintro e w' ⟨rfl, hbw⟩)
        go_ret
        exact ⟨ret_int (idxN_hit hlt H1.out HJ.out).symm, HB.out.trans (hbw.mono HB.out.size)⟩
    · have hge : ¬ ((k : Int) < ts.length) := by omega
      go_wp2
      go_ret
      exact ⟨ret_int (idxN_miss (fun j hj => HJ.out j (by omega))).symm, HB.out⟩

set_option maxHeartbeats 400000 in
theorem containsO_any (A : Option Addr) (c : Nat) (ts : List Ent) (n0 : ByteArray) (bx : Nat) (w : World) (hE : Ents w w.heap.size A ts) (hn : ts.length ≤ maxLen)
    (hb : bx < w.heap.size) (hc : w.cell? ⟨bx, 0, none⟩ = some (.string n0)) :
    Calls Try.prog 41 #[.slice A ts.length c, .func (.func 40) #[] #[.pointer (some ⟨bx, 0, none⟩)]] w fun e w' => e = .returned (.bool (hasN ts n0)) ∧ Below w.heap.size w w' := by
  have HR := indexO_any A c ts n0 bx w hE hn hb hc
  have hI := idxN_has ts n0
  clear hE hc
  go_enter Try.func41, Try.ntmps41
  go_wp2_with (go_at_call 42; refine HR.mono ?_; rintro e w' ⟨rfl, hbw⟩)
  go_ret
  exact ⟨rfl, hbw⟩

set_option maxHeartbeats 1000000 in
theorem objectCode_any (A0 : Option Addr) (n0 c0' : Nat) (A : Option Addr) (c : Nat) (ts : List Ent) (s : ByteArray) (p : Int) (w : World) (hE : Ents w w.heap.size A ts) (hn : ts.length ≤ maxLen) (hs : s.size ≤ maxLen) :
    Calls Try.prog 37 #[.slice A0 n0 c0', .slice A ts.length c, .agg #[.string s, .int .i64 p]] w fun e w' => e = .returned (.int .i64 (ecode false n0 ts s p)) ∧ Below w.heap.size w w' := by
  have hA := (hE.below ((Below.refl _ w).alloc (Nat.le_refl _) (.cells #[.string s, .int .i64 p] 45))).more (B' := (w.alloc (.cells #[.string s, .int .i64 p] 45)).heap.size) (by simp)
  have hc := containsO_any A c ts s w.heap.size (w.alloc (.cells #[.string s, .int .i64 p] 45)) hA hn (by simp) (by simp)
  unfold maxLen at hn
  clear hE hA
  cases h1 : nameB s
  · have H := Lib.hid (ecode_12a (n := n0) (ts := ts) (p := p) (o := false) h1)
    go_enter Try.func37, Try.ntmps37
    go_wp2_with (go_at_call 33; refine (isName_any _ hs _).mono ?_; rintro e w' ⟨rfl, rfl⟩)
    go_ret
    exact ⟨ret_int H.out.symm, by go_grown⟩
  have H := ecode_rest (n := n0) (ts := ts) (p := p) (o := false) h1 (by simp)
  cases h3 : hasN ts s
  case true =>
    rw [h3] at H
    have H := Lib.hid H
    go_enter Try.func37, Try.ntmps37
    go_wp2_with (first
      | (go_at_call 33; refine (isName_any _ hs _).mono ?_; rintro e w' ⟨rfl, rfl⟩)
      | (go_at_call 41; refine hc.mono ?_; rintro e w' ⟨rfl, hbw⟩))
    go_ret
    exact ⟨ret_int H.out.symm, ((Below.refl _ _).alloc (Nat.le_refl _) _).trans (hbw.mono (by simp))⟩
  rw [h3] at H
  cases h4 : istB n0 p
  all_goals
    rw [h4] at H
    have H' := Lib.hid H
    clear H
    go_enter Try.func37, Try.ntmps37
    go_wp2_with (first
      | (go_at_call 33; refine (isName_any _ hs _).mono ?_; rintro e w' ⟨rfl, rfl⟩)
      | (go_at_call 35; refine (isType_any _ _ _ _ _).mono ?_; rintro e w' ⟨rfl, rfl⟩)
      | (go_at_call 41; refine hc.mono ?_; rintro e w' ⟨rfl, hbw⟩; have hc1 : w'.cell? ⟨w.heap.size, 1, none⟩ = some (.int .i64 p) := (hbw.cell (p := ⟨w.heap.size, 1, none⟩) (by simp)).trans (by simp)))
    go_ret
    exact ⟨ret_int H'.out.symm, ((Below.refl _ _).alloc (Nat.le_refl _) _).trans (hbw.mono (by simp))⟩

def obCode (n : Nat) (ts : List Ent) (i : Nat) : Int := ecode false n (ts.take i) (nm ts i) (pr ts i)
def obPos (i : Nat) : Int := -10 - (i : Int)
def obFault (n : Nat) (ts : List Ent) : Int × Int := if 8 < ts.length then (2, -3) else firstF (obCode n ts) obPos ts.length
theorem obCode_12a {n : Nat} {ts : List Ent} {k : Nat} (h : nameB (nm ts k) = false) : obCode n ts k = 12 := ecode_12a h
theorem obCode_rest {n : Nat} {ts : List Ent} {k : Nat} (h : nameB (nm ts k) = true) : obCode n ts k = if hasN (ts.take k) (nm ts k) then 7 else if !istB n (pr ts k) then 3 else 0 := ecode_rest h (by simp)

theorem codeAtO (A0 : Option Addr) (n0 c0' : Nat) (b o c : Nat) (ts : List Ent) (k : Nat) (W : World) (hE : Ents W W.heap.size (some ⟨b, o, none⟩) ts) (hn : ts.length ≤ maxLen) (hk : k < ts.length) (hl : (nm ts k).size ≤ maxLen) :
    Calls Try.prog 37 #[.slice A0 n0 c0', .slice (some ⟨b, o, none⟩) k c, .agg #[.string (nm ts k), .int .i64 (pr ts k)]] W fun e w' => e = .returned (.int .i64 (obCode n0 ts k)) ∧ Below W.heap.size W w' := by
  have hlen : (ts.take k).length = k := by rw [List.length_take]; omega
  have h := objectCode_any A0 n0 c0' (some ⟨b, o, none⟩) c (ts.take k) (nm ts k) (pr ts k) W (hE.take k) (by omega) hl
  rw [hlen] at h
  exact h

set_option maxHeartbeats 1000000 in
theorem validateObjects_any (A0 : Option Addr) (n0 c0' : Nat) (A : Option Addr) (c : Nat) (ts : List Ent) (w : World) (hE : Ents w w.heap.size A ts) (hn : ts.length ≤ maxLen) (hcap : ts.length ≤ c) (hcm : c ≤ maxLen) :
    Calls Try.prog 31 #[.slice A0 n0 c0', .slice A ts.length c] w fun e w' => e = .returned (.agg #[.int .i64 (obFault n0 ts).1, .int .i64 (obFault n0 ts).2]) ∧ Below w.heap.size w w' := by
  unfold maxLen at hn hcm
  have HE := Lib.hid hE
  clear hE
  by_cases h8 : 8 < ts.length
  · have H := Lib.hid (show obFault n0 ts = (2, -3) by simp [obFault, h8])
    go_enter Try.func31, Try.ntmps31
    go_wp2
    go_returns
    exact ⟨ret_val (by rw [H.out]), by go_grown⟩
  · have H := Lib.hid (show obFault n0 ts = firstF (obCode n0 ts) obPos ts.length by simp [obFault, h8])
    go_enter Try.func31, Try.ntmps31
    go_wp2
    go_loopw [14] (fun i wr => ∃ k : Nat, k ≤ ts.length ∧ i = .int .i64 k ∧ Below w.heap.size w wr ∧ Two wr w.heap.size (.int .i64 0) (.int .i64 0) ∧ ∀ j, j < k → obCode n0 ts j = 0) (fun i _ => ts.length - (intOf i).toNat)
    case atStart => exact ⟨0, by omega, rfl, by go_grown, ⟨by simp, by simp, by simp, by simp, by simp⟩, by omega⟩
    case round =>
      obtain ⟨k, hk, rfl, hbw, htwo, hj⟩ := hrel
      have HJ := Lib.hid hj
      clear hj
      have HB := Lib.hid hbw
      clear hbw
      have HT := Lib.hid htwo
      clear htwo
      by_cases hlt : k < ts.length
      · obtain ⟨b, o, rfl, hbl, hs, hp, hl⟩ := (HE.out.below HB.out).at_ hlt
        go_wp2
        have hkc : (k : Int) ≤ c := by omega
        generalize hW : wr.alloc (.cells #[.string (nm ts k), .int .i64 (pr ts k)] 45) = w1
        have hB1 : Below w.heap.size w w1 := by rw [← hW]; exact HB.out.alloc HB.out.size _
        have hz1 : w1.heap.size = wr.heap.size + 1 := by rw [← hW]; simp
        have hc2 : w1.cell? ⟨wr.heap.size, 0, none⟩ = some (.string (nm ts k)) := by rw [← hW]; simp
        have hc3 : w1.cell? ⟨wr.heap.size, 1, none⟩ = some (.int .i64 (pr ts k)) := by rw [← hW]; simp
        have HZ := Lib.hid hz1
        have HB1 := Lib.hid hB1
        have HW := Lib.hid hW
        clear hz1 hB1 hW
        refine wp_region_still_tail 5 (by kernel_rfl) (by kernel_rfl) ?_
        simp only [List.take_succ_cons, List.take_zero, List.drop_succ_cons, List.drop_zero]
        change wpStill _ _ w1.drew _ _ _
        repeat still_step
        try refine wpStill_nil ?_
        change wpList _ _ _ _ _ w1.drew
        have hcall := codeAtO A0 n0 c0' b o c ts k w1.drew (HE.out.to (B' := w1.drew.heap.size) HB1.out.drew (by have := HZ.out; have := HB.out.size; show _ ≤ w1.heap.size; omega)) (by unfold maxLen; omega) hlt hl
        have h2 : ∀ w', Below w1.drew.heap.size w1.drew w' → Below w.heap.size w w' ∧ Two w' w.heap.size (.int .i64 0) (.int .i64 0) := fun w' hbw => by
          have e1 : wr.heap.size ≤ w1.drew.heap.size := by have := HZ.out; show _ ≤ w1.heap.size; omega
          have e2 := HT.out.lt
          refine ⟨HB1.out.drew.trans (hbw.mono (by omega)), ?_⟩
          have : Below wr.heap.size wr w1 := by rw [← HW.out]; exact (Below.refl _ _).alloc (Nat.le_refl _) _
          exact (HT.out.to this.drew (by omega)).to hbw (by omega)
        have H2 := Lib.hid h2
        clear h2
        by_cases hcode : obCode n0 ts k = 0
        · have H0 := Lib.hid hcode
          have hne : (obCode n0 ts k != 0) = false := by simpa using hcode
          clear hcode
          go_wp2_with (go_at_call 37; refine hcall.mono ?_; rintro e w' ⟨rfl, hbw⟩)
          go_roundw
          case rel => exact ⟨k + 1, by omega, by go_num, (H2.out _ hbw).1, (H2.out _ hbw).2, code_step HJ.out H0.out⟩
          case measure => simp [intOf]; omega
        · have H0 := Lib.hid hcode
          have hne : (obCode n0 ts k != 0) = true := by simpa using hcode
          clear hcode
          go_wp2_with (go_at_call 37; refine hcall.mono ?_; rintro e w' ⟨rfl, hbw⟩; obtain ⟨_, c0, c1, f0, f1⟩ := (H2.out _ hbw).2)
          have TW := (H2.out _ hbw).2.set (.int .i64 (obCode n0 ts k)) (.int .i64 (-10 - (k : Int)))
          have BW := Lib.hid ((((H2.out _ hbw).1.setCell (p := ⟨w.heap.size, 0, none⟩) (Nat.le_refl _) (.int .i64 (obCode n0 ts k))).setCell (p := ⟨w.heap.size, 1, none⟩) (Nat.le_refl _) (.int .i64 (-10 - (k : Int)))))
          generalize (w'.setCell ⟨w.heap.size, 0, none⟩ (.int .i64 (obCode n0 ts k))).setCell ⟨w.heap.size, 1, none⟩ (.int .i64 (-10 - (k : Int))) = wf at TW BW ⊢
          obtain ⟨_, d0, d1, _, _⟩ := TW
          refine bodyPost_ret (v := faultV (obCode n0 ts k, obPos k)) (by simp [results, Try.results31, go_sem, d0, d1, faultV, obPos]) rfl ?_
          exact ⟨ret_val (by rw [H.out, firstF_hit hlt H0.out HJ.out]), BW.out⟩
      · have hge : ¬ ((k : Int) < ts.length) := by omega
        obtain ⟨_, c0, c1, f0, f1⟩ := HT.out
        go_wp2
        have TW := HT.out.set (.int .i64 0) (.int .i64 0)
        have BW := Lib.hid ((HB.out.setCell (p := ⟨w.heap.size, 0, none⟩) (Nat.le_refl _) (.int .i64 0)).setCell (p := ⟨w.heap.size, 1, none⟩) (Nat.le_refl _) (.int .i64 0))
        generalize (wr.setCell ⟨w.heap.size, 0, none⟩ (.int .i64 0)).setCell ⟨w.heap.size, 1, none⟩ (.int .i64 0) = wf at TW BW ⊢
        obtain ⟨_, d0, d1, _, _⟩ := TW
        refine bodyPost_ret (v := faultV (0, 0)) (by simp [results, Try.results31, go_sem, d0, d1, faultV]) rfl ?_
        exact ⟨ret_val (by rw [H.out, firstF_miss (fun j hj => HJ.out j (by omega))]), BW.out⟩

set_option maxHeartbeats 1000000 in
theorem objectsFault_any (A0 : Option Addr) (n0 c0' : Nat) (hn0 : n0 ≤ maxLen) (A : Option Addr) (c : Nat) (ts : List Ent) (w : World) (hE : Ents w w.heap.size A ts) (hn : ts.length ≤ maxLen) :
    Calls Try.prog 15 #[.slice A0 n0 c0', .slice A ts.length c] w fun e w' => e = .returned (.agg #[.int .i64 (obFault n0 ts).1, .int .i64 (obFault n0 ts).2]) ∧ Below w.heap.size w w' := by
  unfold maxLen at hn hn0
  have HE := Lib.hid hE
  clear hE
  by_cases h8 : 8 < ts.length
  · have H := Lib.hid (show obFault n0 ts = (2, -3) by simp [obFault, h8])
    have hT := two_new w (.int .i64 0) (.int .i64 0) 26
    go_enter Try.func15, Try.ntmps15
    go_wp2_with (go_at_call 22; refine (at_keep _ _ _ _ _ _ hT).mono ?_; rintro e w' ⟨rfl, hbw, htw⟩; obtain ⟨_, k0, k1, kf0, kf1⟩ := htw)
    have TW := ((⟨‹_›, k0, k1, kf0, kf1⟩ : Two w' w.heap.size _ _)).set (.int .i64 2) (.int .i64 (-3))
    have BW := Lib.hid (((((Below.refl _ w).alloc (Nat.le_refl _) _).trans (hbw.mono (by simp))).setCell (p := ⟨w.heap.size, 0, none⟩) (Nat.le_refl _) (.int .i64 2)).setCell (p := ⟨w.heap.size, 1, none⟩) (Nat.le_refl _) (.int .i64 (-3)))
    generalize (w'.setCell ⟨w.heap.size, 0, none⟩ (.int .i64 2)).setCell ⟨w.heap.size, 1, none⟩ (.int .i64 (-3)) = wf at TW BW ⊢
    obtain ⟨_, d0, d1, _, _⟩ := TW
    refine bodyPost_ret (v := faultV (2, -3)) (by simp [results, Try.results15, go_sem, d0, d1]) rfl ?_
    exact ⟨ret_val (by rw [H.out]), BW.out⟩
  · have H := Lib.hid (show obFault n0 ts = firstF (obCode n0 ts) obPos ts.length by simp [obFault, h8])
    go_enter Try.func15, Try.ntmps15
    go_wp2
    go_loopw [5] (fun i wr => ∃ k : Nat, k ≤ ts.length ∧ i = .int .i64 k ∧ Below w.heap.size w wr ∧ Two wr w.heap.size (.int .i64 0) (.int .i64 0) ∧ ∀ j, j < k → obCode n0 ts j = 0) (fun i _ => ts.length - (intOf i).toNat)
    case atStart => exact ⟨0, by omega, rfl, by go_grown, ⟨by simp, by simp, by simp, by simp, by simp⟩, by omega⟩
    case round =>
      obtain ⟨k, hk, rfl, hbw, htwo, hj⟩ := hrel
      have HJ := Lib.hid hj
      clear hj
      have HB := Lib.hid hbw
      clear hbw
      have HT := Lib.hid htwo
      clear htwo
      by_cases hlt : k < ts.length
      · obtain ⟨b, o, rfl, hbl, hs, hp, hl⟩ := (HE.out.below HB.out).at_ hlt
        cases h1 : nameB (nm ts k)
        · have H0 := Lib.hid (obCode_12a (n := n0) h1)
          go_wp2_with (first
            | (go_at_call 24; refine (name_any _ hl _).mono ?_; rintro e w' ⟨rfl, rfl⟩)
            | (go_at_call 22; refine (at_keep _ _ _ _ _ _ HT.out).mono ?_; rintro e w' ⟨rfl, hbw, htw⟩; obtain ⟨_, k0, k1, kf0, kf1⟩ := htw))
          have TW := ((⟨‹_›, k0, k1, kf0, kf1⟩ : Two w' w.heap.size _ _)).set (.int .i64 12) (.int .i64 (-10 - (k : Int)))
          have BW := Lib.hid (((HB.out.trans (hbw.mono HB.out.size)).setCell (p := ⟨w.heap.size, 0, none⟩) (Nat.le_refl _) (.int .i64 12)).setCell (p := ⟨w.heap.size, 1, none⟩) (Nat.le_refl _) (.int .i64 (-10 - (k : Int))))
          generalize (w'.setCell ⟨w.heap.size, 0, none⟩ (.int .i64 12)).setCell ⟨w.heap.size, 1, none⟩ (.int .i64 (-10 - (k : Int))) = wf at TW BW ⊢
          obtain ⟨_, d0, d1, _, _⟩ := TW
          refine bodyPost_ret (v := faultV (12, -10 - (k : Int))) (by simp [results, Try.results15, go_sem, d0, d1]) rfl ?_
          exact ⟨ret_val (by rw [H.out, firstF_hit hlt (by rw [H0.out]; decide) HJ.out, H0.out]; rfl), BW.out⟩
        · have HC := Lib.hid (obCode_rest (n := n0) h1)
          go_wp2_with (go_at_call 24; refine (name_any _ hl _).mono ?_; rintro e w' ⟨rfl, rfl⟩)
          clear hs hp
          go_loopw [6] (fun i wq => ∃ j : Nat, j ≤ k ∧ i = .int .i64 j ∧ Below w.heap.size w wq ∧ Two wq w.heap.size (.int .i64 0) (.int .i64 0) ∧ ∀ j', j' < j → eqB (nm ts j') (nm ts k) = false) (fun i _ => k - (intOf i).toNat)
          case atStart => exact ⟨0, by omega, rfl, HB.out, HT.out, by omega⟩
          case round =>
            obtain ⟨j, hjk, rfl, hbq, htq, hjj⟩ := hrel
            have HJJ := Lib.hid hjj
            clear hjj
            have HBQ := Lib.hid hbq
            clear hbq
            have HTQ := Lib.hid htq
            clear htq
            obtain ⟨b', o', e', _, hsk, hpk, _⟩ := (HE.out.below HBQ.out).at_ hlt
            obtain ⟨rfl, rfl⟩ : b' = b ∧ o' = o := by injection e' with e'; injection e' with e1 e2; exact ⟨e1.symm, e2.symm⟩
            clear e'
            by_cases hlj : j < k
            · obtain ⟨b2, o2, e2, _, hsj, _, _⟩ := (HE.out.below HBQ.out).at_ (show j < ts.length by omega)
              obtain ⟨rfl, rfl⟩ : b2 = b' ∧ o2 = o' := by injection e2 with e2; injection e2 with e1 e2; exact ⟨e1.symm, e2.symm⟩
              clear e2
              cases he : ((nm ts j).toList == (nm ts k).toList)
              · have HEQ := Lib.hid (show eqB (nm ts j) (nm ts k) = false from he)
                go_wp2
                go_quiet (fail)
                go_wp2
                go_roundw
                case rel => exact ⟨j + 1, by omega, by go_num, belowN HBQ.out _, twoN HTQ.out _, idx_step HJJ.out HEQ.out⟩
                case measure => simp [intOf]; omega
              · have HEQ := Lib.hid (show eqB (nm ts j) (nm ts k) = true from he)
                go_wp2
                go_quiet (fail)
                have H0 := Lib.hid (show obCode n0 ts k = 7 by rw [HC.out, hasN_hit hk hlj _ HEQ.out]; rfl)
                go_wp2_with (go_at_call 22; refine (at_keep _ _ _ _ _ _ (twoN HTQ.out _)).mono ?_; rintro e w' ⟨rfl, hbw, htw⟩; obtain ⟨_, k0, k1, kf0, kf1⟩ := htw)
                have TW := ((⟨‹_›, k0, k1, kf0, kf1⟩ : Two w' w.heap.size _ _)).set (.int .i64 7) (.int .i64 (-10 - (k : Int)))
                have BW := Lib.hid ((((belowN HBQ.out _).trans (hbw.mono HBQ.out.size)).setCell (p := ⟨w.heap.size, 0, none⟩) (Nat.le_refl _) (.int .i64 7)).setCell (p := ⟨w.heap.size, 1, none⟩) (Nat.le_refl _) (.int .i64 (-10 - (k : Int))))
                generalize (w'.setCell ⟨w.heap.size, 0, none⟩ (.int .i64 7)).setCell ⟨w.heap.size, 1, none⟩ (.int .i64 (-10 - (k : Int))) = wf at TW BW ⊢
                obtain ⟨_, d0, d1, _, _⟩ := TW
                refine bodyPost_ret (v := faultV (7, -10 - (k : Int))) (by simp [results, Try.results15, go_sem, d0, d1]) rfl ?_
                exact ⟨ret_val (by rw [H.out, firstF_hit hlt (by rw [H0.out]; decide) HJ.out, H0.out]; rfl), BW.out⟩
            · have hz := istB_in n0 (pr ts k)
              cases hi : istB n0 (pr ts k)
              · rw [hi] at hz
                have H0 := Lib.hid (show obCode n0 ts k = 3 by rw [HC.out, hasN_miss _ (fun j' hj' => HJJ.out j' (by omega)), hi]; rfl)
                go_wp2_with (first
                  | (go_at_call 25; refine (in_any _ _ _ _).mono ?_; rintro e w' ⟨rfl, rfl⟩)
                  | (go_at_call 22; refine (at_keep _ _ _ _ _ _ HTQ.out).mono ?_; rintro e w' ⟨rfl, hbw, htw⟩; obtain ⟨_, k0, k1, kf0, kf1⟩ := htw))
                have TW := ((⟨‹_›, k0, k1, kf0, kf1⟩ : Two w' w.heap.size _ _)).set (.int .i64 3) (.int .i64 (-10 - (k : Int)))
                have BW := Lib.hid (((HBQ.out.trans (hbw.mono HBQ.out.size)).setCell (p := ⟨w.heap.size, 0, none⟩) (Nat.le_refl _) (.int .i64 3)).setCell (p := ⟨w.heap.size, 1, none⟩) (Nat.le_refl _) (.int .i64 (-10 - (k : Int))))
                generalize (w'.setCell ⟨w.heap.size, 0, none⟩ (.int .i64 3)).setCell ⟨w.heap.size, 1, none⟩ (.int .i64 (-10 - (k : Int))) = wf at TW BW ⊢
                obtain ⟨_, d0, d1, _, _⟩ := TW
                refine bodyPost_ret (v := faultV (3, -10 - (k : Int))) (by simp [results, Try.results15, go_sem, d0, d1]) rfl ?_
                exact ⟨ret_val (by rw [H.out, firstF_hit hlt (by rw [H0.out]; decide) HJ.out, H0.out]; rfl), BW.out⟩
              · rw [hi] at hz
                have H0 := Lib.hid (show obCode n0 ts k = 0 by rw [HC.out, hasN_miss _ (fun j' hj' => HJJ.out j' (by omega)), hi]; rfl)
                go_wp2_with (go_at_call 25; refine (in_any _ _ _ _).mono ?_; rintro e w' ⟨rfl, rfl⟩)
                go_roundw
                case rel => exact ⟨k + 1, by omega, by go_num, HBQ.out, HTQ.out, code_step HJ.out H0.out⟩
                case measure => simp [intOf]; omega
      · have hge : ¬ ((k : Int) < ts.length) := by omega
        obtain ⟨_, c0, c1, f0, f1⟩ := HT.out
        go_wp2
        have TW := (HT.out).set (.int .i64 0) (.int .i64 0)
        have BW := Lib.hid (((HB.out).setCell (p := ⟨w.heap.size, 0, none⟩) (Nat.le_refl _) (.int .i64 0)).setCell (p := ⟨w.heap.size, 1, none⟩) (Nat.le_refl _) (.int .i64 0))
        generalize (wr.setCell ⟨w.heap.size, 0, none⟩ (.int .i64 0)).setCell ⟨w.heap.size, 1, none⟩ (.int .i64 0) = wf at TW BW ⊢
        obtain ⟨_, d0, d1, _, _⟩ := TW
        refine bodyPost_ret (v := faultV (0, 0)) (by simp [results, Try.results15, go_sem, d0, d1]) rfl ?_
        exact ⟨ret_val (by rw [H.out, firstF_miss (fun j hj => HJ.out j (by omega))]), BW.out⟩


end Go.Proofs.Ytjmkilmpfaapbaa
