/- comparisonsCode, changesCode and operatorCode of package numeric. -/
import Derived.Test.YtiafplmaigpmeaaNza
import Derived.Test.YtiafplmaigpmeaaNft
namespace Go.Proofs.Ytiafplmaigpmeaa
open Go.RowKit
set_option linter.unusedSimpArgs false
set_option linter.unusedVariables false
set_option maxRecDepth 100000

set_option maxHeartbeats 2000000 in
theorem cmpsCode_any (n : Nat) (A : Option Addr) (c : Nat) (l : List Cmp) (w : World) (hL : CmpL w w.heap.size A c l) :
    Calls Try.prog 28 #[.slice A l.length c, .int .i64 n] w fun e w' => e = .returned (.int .i64 (ccode n l)) ∧ Below w.heap.size w w' := by
  have hln := Nat.le_trans hL.le hL.max
  unfold maxLen at hln
  have HL := Lib.hid (fun (W : World) (h : Below w.heap.size w W) => hL.to h h.size)
  clear hL
  by_cases h8 : 8 < l.length
  case pos =>
    have H := Lib.hid (show ccode n l = 2 by unfold ccode; rw [if_pos h8])
    have hd : decide ((8 : Int) < (l.length : Int)) = true := by simp; omega
    go_enter Try.func28, Try.ntmps28
    go_wp2
    go_ret
    exact ⟨ret_int H.out.symm, Below.refl _ _⟩
  case neg =>
    have hd : decide ((8 : Int) < (l.length : Int)) = false := by simp; omega
    go_enter Try.func28, Try.ntmps28
    go_wp2
    go_loopw [12] (fun i wr => ∃ k : Nat, k ≤ l.length ∧ i = .int .i64 k ∧ (∀ j, j < k → cc1 n (cmp l j) = 0) ∧ Below w.heap.size w wr) (fun i _ => l.length - (intOf i).toNat)
    case atStart => exact ⟨0, by omega, rfl, fun j h => by omega, Below.refl _ _⟩
    case round =>
      obtain ⟨k, hk, rfl, hj, hb⟩ := hrel
      have HJ := Lib.hid hj
      have HB := Lib.hid hb
      clear hj hb
      by_cases hlt : k < l.length
      case neg =>
        have hge : ¬ ((k : Int) < l.length) := by omega
        have HG := Lib.hid (cc_good (n := n) (l := l) (by omega) (fun j hj => HJ.out j (by omega)))
        go_wp2
        go_ret
        exact ⟨ret_int HG.out.symm, HB.out⟩
      case pos =>
        obtain ⟨b, p, a, ca, rfl, _, ⟨q0, q1, q2⟩, hf⟩ := (HL.out _ HB.out).at_ hlt
        have hb1 : Below wr.heap.size wr (wr.alloc (.cells #[.slice a (cmp l k).f.length ca, .int .i64 (cmp l k).k, .int .i64 (cmp l k).b] 70)) := by go_grown
        have HF1 := Lib.hid (hf.to hb1 hb1.size)
        have HB1 := Lib.hid (HB.out.trans (hb1.mono HB.out.size))
        have HOB := Lib.hid (tri_new wr (.slice a (cmp l k).f.length ca) (.int .i64 (cmp l k).k) (.int .i64 (cmp l k).b) 70)
        clear hf hb1
        have hcc : cc1 n (cmp l k) = if inB (cmp l k).k 1 2 then (if okL 1000 n (cmp l k).f && inB (cmp l k).b (-1000000) 1000000 then 0 else 3) else 4 := rfl
        by_cases hK : (cmp l k).k = 1 ∨ (cmp l k).k = 2
        case neg =>
          have h1 : inB (cmp l k).k 1 2 = false := inB_no (fun h => hK (by omega))
          rw [h1] at hcc
          have e1 : ((cmp l k).k != 1) = true := by simp; omega
          have e2 : ((cmp l k).k != 2) = true := by simp; omega
          have H := Lib.hid (show ccode n l = 4 by rw [cc_bad (by omega) hlt HJ.out (by rw [hcc]; simp), hcc]; rfl)
          clear hcc h1 hK
          go_wp2
          go_ret
          exact ⟨ret_int H.out.symm, HB1.out⟩
        case pos =>
          have h1 : inB (cmp l k).k 1 2 = true := inB_iff.2 (by omega)
          rw [h1] at hcc
          clear h1
          cases h2 : okL 1000 n (cmp l k).f
          · rw [h2] at hcc
            have H := Lib.hid (show ccode n l = 3 by rw [cc_bad (by omega) hlt HJ.out (by rw [hcc]; simp), hcc]; rfl)
            clear hcc
            rcases hK with hK | hK
            · have e1 : ((cmp l k).k != 1) = false := by simp [hK]
              clear hK
              go_wp2_with (go_at_call 27; refine (isList_any a ca (cmp l k).f n 1000 (by omega) (by omega) _ HF1.out).mono ?_; rintro e w2 ⟨rfl, hb2⟩; have HB2 := Lib.hid (HB1.out.trans (hb2.mono HB1.out.size)); have r2 := (HOB.out.to hb2).c2; clear hb2)
              go_ret
              exact ⟨ret_int H.out.symm, HB2.out⟩
            · have e1 : ((cmp l k).k != 1) = true := by simp [hK]
              have e2 : ((cmp l k).k != 2) = false := by simp [hK]
              clear hK
              go_wp2_with (go_at_call 27; refine (isList_any a ca (cmp l k).f n 1000 (by omega) (by omega) _ HF1.out).mono ?_; rintro e w2 ⟨rfl, hb2⟩; have HB2 := Lib.hid (HB1.out.trans (hb2.mono HB1.out.size)); have r2 := (HOB.out.to hb2).c2; clear hb2)
              go_ret
              exact ⟨ret_int H.out.symm, HB2.out⟩
          rw [h2] at hcc
          cases h3 : inB (cmp l k).b (-1000000) 1000000
          · rw [h3] at hcc
            have H := Lib.hid (show ccode n l = 3 by rw [cc_bad (by omega) hlt HJ.out (by rw [hcc]; simp), hcc]; rfl)
            clear hcc
            rcases hK with hK | hK
            · have e1 : ((cmp l k).k != 1) = false := by simp [hK]
              clear hK
              go_wp2_with (first | (go_at_call 27; refine (isList_any a ca (cmp l k).f n 1000 (by omega) (by omega) _ HF1.out).mono ?_; rintro e w2 ⟨rfl, hb2⟩; have HB2 := Lib.hid (HB1.out.trans (hb2.mono HB1.out.size)); have r2 := (HOB.out.to hb2).c2; clear hb2) | (go_at_call 40; refine (within_any (cmp l k).b 1000000 (by omega) (by omega) _).mono ?_; rintro e w3 ⟨rfl, rfl⟩))
              go_ret
              exact ⟨ret_int H.out.symm, HB2.out⟩
            · have e1 : ((cmp l k).k != 1) = true := by simp [hK]
              have e2 : ((cmp l k).k != 2) = false := by simp [hK]
              clear hK
              go_wp2_with (first | (go_at_call 27; refine (isList_any a ca (cmp l k).f n 1000 (by omega) (by omega) _ HF1.out).mono ?_; rintro e w2 ⟨rfl, hb2⟩; have HB2 := Lib.hid (HB1.out.trans (hb2.mono HB1.out.size)); have r2 := (HOB.out.to hb2).c2; clear hb2) | (go_at_call 40; refine (within_any (cmp l k).b 1000000 (by omega) (by omega) _).mono ?_; rintro e w3 ⟨rfl, rfl⟩))
              go_ret
              exact ⟨ret_int H.out.symm, HB2.out⟩
          rw [h3] at hcc
          have HI := Lib.hid (show cc1 n (cmp l k) = 0 by rw [hcc]; rfl)
          clear hcc
          rcases hK with hK | hK
          · have e1 : ((cmp l k).k != 1) = false := by simp [hK]
            clear hK
            go_wp2_with (first | (go_at_call 27; refine (isList_any a ca (cmp l k).f n 1000 (by omega) (by omega) _ HF1.out).mono ?_; rintro e w2 ⟨rfl, hb2⟩; have HB2 := Lib.hid (HB1.out.trans (hb2.mono HB1.out.size)); have r2 := (HOB.out.to hb2).c2; clear hb2) | (go_at_call 40; refine (within_any (cmp l k).b 1000000 (by omega) (by omega) _).mono ?_; rintro e w3 ⟨rfl, rfl⟩))
            go_roundw
            case rel => exact ⟨k + 1, by omega, by go_num, all_step HJ.out HI.out, HB2.out⟩
            case measure => simp [intOf]; omega
          · have e1 : ((cmp l k).k != 1) = true := by simp [hK]
            have e2 : ((cmp l k).k != 2) = false := by simp [hK]
            clear hK
            go_wp2_with (first | (go_at_call 27; refine (isList_any a ca (cmp l k).f n 1000 (by omega) (by omega) _ HF1.out).mono ?_; rintro e w2 ⟨rfl, hb2⟩; have HB2 := Lib.hid (HB1.out.trans (hb2.mono HB1.out.size)); have r2 := (HOB.out.to hb2).c2; clear hb2) | (go_at_call 40; refine (within_any (cmp l k).b 1000000 (by omega) (by omega) _).mono ?_; rintro e w3 ⟨rfl, rfl⟩))
            go_roundw
            case rel => exact ⟨k + 1, by omega, by go_num, all_step HJ.out HI.out, HB2.out⟩
            case measure => simp [intOf]; omega

/-- The variable of the change before place k, or -1. -/
def prv (l : List Chg) (k : Nat) : Int := if k = 0 then -1 else (chg l (k - 1)).v
theorem prv_le (l : List Chg) (k : Nat) (h0 : 0 ≤ (chg l k).v) : ((chg l k).v ≤ prv l k) ↔ (0 < k ∧ (chg l k).v ≤ (chg l (k - 1)).v) := by
  unfold prv
  by_cases h : k = 0
  · simp [h]; subst h; omega
  · simp [h]; omega
theorem prv_succ (l : List Chg) (k : Nat) : prv l (k + 1) = (chg l k).v := by simp [prv]
set_option maxHeartbeats 2000000 in
theorem chgsCode_any (n : Nat) (A : Option Addr) (c : Nat) (l : List Chg) (w : World) (hL : ChgL w w.heap.size A c l) :
    Calls Try.prog 42 #[.slice A l.length c, .int .i64 n] w fun e w' => e = .returned (.int .i64 (hcode n l)) ∧ Below w.heap.size w w' := by
  have hln := Nat.le_trans hL.le hL.max
  unfold maxLen at hln
  have HL := Lib.hid (fun (W : World) (h : Below w.heap.size w W) => hL.to h h.size)
  clear hL
  go_enter Try.func42, Try.ntmps42
  go_wp2
  go_loopw [5, 10] (fun z i wr => ∃ k : Nat, k ≤ l.length ∧ i = .int .i64 k ∧ z = .int .i64 (prv l k) ∧ (∀ j, j < k → ch1 n l j = 0) ∧ Below w.heap.size w wr) (fun _ i _ => l.length - (intOf i).toNat)
  case atStart => exact ⟨0, by omega, rfl, rfl, fun j h => by omega, Below.refl _ _⟩
  case round =>
    obtain ⟨k, hk, rfl, rfl, hj, hb⟩ := hrel
    have HJ := Lib.hid hj
    have HB := Lib.hid hb
    clear hj hb
    by_cases hlt : k < l.length
    case neg =>
      have hge : ¬ ((k : Int) < l.length) := by omega
      have HG := Lib.hid (hc_good (n := n) (l := l) (fun j hj => HJ.out j (by omega)))
      go_wp2
      go_ret
      exact ⟨ret_int HG.out.symm, HB.out⟩
    case pos =>
      obtain ⟨b, p, a, ca, rfl, _, ⟨q0, q1, q2⟩, hf⟩ := (HL.out _ HB.out).at_ hlt
      have hb1 : Below wr.heap.size wr (wr.alloc (.cells #[.int .i64 (chg l k).v, .slice a (chg l k).f.length ca, .int .i64 (chg l k).c] 55)) := by go_grown
      have HF1 := Lib.hid (hf.to hb1 hb1.size)
      have HB1 := Lib.hid (HB.out.trans (hb1.mono HB.out.size))
      have HOB := Lib.hid (tri_new wr (.int .i64 (chg l k).v) (.slice a (chg l k).f.length ca) (.int .i64 (chg l k).c) 55)
      clear hf hb1
      have hcc : ch1 n l k = if inB (chg l k).v 0 ((n : Int) - 1) && okL 1000 n (chg l k).f && inB (chg l k).c (-1000) 1000 then (if 0 < k ∧ (chg l k).v ≤ (chg l (k - 1)).v then 5 else 0) else 3 := rfl
      by_cases hV : (chg l k).v < 0
      · have h1 : inB (chg l k).v 0 ((n : Int) - 1) = false := inB_no (fun h => by omega)
        rw [h1] at hcc
        have H := Lib.hid (show hcode n l = 3 by rw [hc_bad hlt HJ.out (by rw [hcc]; simp), hcc]; simp)
        clear hcc h1
        go_wp2
        go_ret
        exact ⟨ret_int H.out.symm, HB1.out⟩
      by_cases hV2 : (n : Int) ≤ (chg l k).v
      · have h1 : inB (chg l k).v 0 ((n : Int) - 1) = false := inB_no (fun h => by omega)
        rw [h1] at hcc
        have H := Lib.hid (show hcode n l = 3 by rw [hc_bad hlt HJ.out (by rw [hcc]; simp), hcc]; simp)
        clear hcc h1
        go_wp2
        go_ret
        exact ⟨ret_int H.out.symm, HB1.out⟩
      have h1 : inB (chg l k).v 0 ((n : Int) - 1) = true := inB_iff.2 (by omega)
      rw [h1] at hcc
      clear h1
      cases h2 : okL 1000 n (chg l k).f
      · rw [h2] at hcc
        have H := Lib.hid (show hcode n l = 3 by rw [hc_bad hlt HJ.out (by rw [hcc]; simp), hcc]; simp)
        clear hcc
        go_wp2_with (go_at_call 27; refine (isList_any a ca (chg l k).f n 1000 (by omega) (by omega) _ HF1.out).mono ?_; rintro e w2 ⟨rfl, hb2⟩; have HB2 := Lib.hid (HB1.out.trans (hb2.mono HB1.out.size)); have r2 := (HOB.out.to hb2).c2; have r0 := (HOB.out.to hb2).c0; clear hb2)
        go_ret
        exact ⟨ret_int H.out.symm, HB2.out⟩
      rw [h2] at hcc
      cases h3 : inB (chg l k).c (-1000) 1000
      · rw [h3] at hcc
        have H := Lib.hid (show hcode n l = 3 by rw [hc_bad hlt HJ.out (by rw [hcc]; simp), hcc]; simp)
        clear hcc
        go_wp2_with (first | (go_at_call 27; refine (isList_any a ca (chg l k).f n 1000 (by omega) (by omega) _ HF1.out).mono ?_; rintro e w2 ⟨rfl, hb2⟩; have HB2 := Lib.hid (HB1.out.trans (hb2.mono HB1.out.size)); have r2 := (HOB.out.to hb2).c2; have r0 := (HOB.out.to hb2).c0; clear hb2) | (go_at_call 40; refine (within_any (chg l k).c 1000 (by omega) (by omega) _).mono ?_; rintro e w3 ⟨rfl, rfl⟩))
        go_ret
        exact ⟨ret_int H.out.symm, HB2.out⟩
      rw [h3] at hcc
      have hp := prv_le l k (by omega)
      replace hcc : ch1 n l k = if (chg l k).v ≤ prv l k then 5 else 0 := by
        refine hcc.trans ((if_pos (by rfl)).trans ?_)
        by_cases h4 : (chg l k).v ≤ prv l k
        · rw [if_pos h4, if_pos (hp.1 h4)]
        · rw [if_neg h4, if_neg (fun h => h4 (hp.2 h))]
      by_cases h4 : (chg l k).v ≤ prv l k
      · rw [if_pos h4] at hcc
        have H := Lib.hid (show hcode n l = 5 by rw [hc_bad hlt HJ.out (by rw [hcc]; simp), hcc])
        clear hcc hp
        go_wp2_with (first | (go_at_call 27; refine (isList_any a ca (chg l k).f n 1000 (by omega) (by omega) _ HF1.out).mono ?_; rintro e w2 ⟨rfl, hb2⟩; have HB2 := Lib.hid (HB1.out.trans (hb2.mono HB1.out.size)); have r2 := (HOB.out.to hb2).c2; have r0 := (HOB.out.to hb2).c0; clear hb2) | (go_at_call 40; refine (within_any (chg l k).c 1000 (by omega) (by omega) _).mono ?_; rintro e w3 ⟨rfl, rfl⟩))
        go_ret
        exact ⟨ret_int H.out.symm, HB2.out⟩
      · rw [if_neg h4] at hcc
        have HI := Lib.hid (show ch1 n l k = 0 by rw [hcc])
        clear hcc hp
        go_wp2_with (first | (go_at_call 27; refine (isList_any a ca (chg l k).f n 1000 (by omega) (by omega) _ HF1.out).mono ?_; rintro e w2 ⟨rfl, hb2⟩; have HB2 := Lib.hid (HB1.out.trans (hb2.mono HB1.out.size)); have r2 := (HOB.out.to hb2).c2; have r0 := (HOB.out.to hb2).c0; clear hb2) | (go_at_call 40; refine (within_any (chg l k).c 1000 (by omega) (by omega) _).mono ?_; rintro e w3 ⟨rfl, rfl⟩))
        go_roundw
        case rel => exact ⟨k + 1, by omega, by go_num, by rw [prv_succ], all_step HJ.out HI.out, HB2.out⟩
        case measure => simp [intOf]; omega

set_option maxHeartbeats 2000000 in
theorem operCode_any (n : Nat) (o : NOp) (a1 a2 : Option Addr) (c1 c2 : Nat) (w : World) (h1 : CmpL w w.heap.size a1 c1 o.pre) (h2 : ChgL w w.heap.size a2 c2 o.ch) :
    Calls Try.prog 29 #[.agg #[.slice a1 o.pre.length c1, .slice a2 o.ch.length c2, .int .i64 o.cost], .int .i64 n] w fun e w' => e = .returned (.int .i64 (ocode n o)) ∧ Below w.heap.size w w' := by
  have hb1 : Below w.heap.size w (w.alloc (.cells #[.slice a1 o.pre.length c1, .slice a2 o.ch.length c2, .int .i64 o.cost] 53)) := by go_grown
  have HP1 := Lib.hid (h1.to hb1 hb1.size)
  have HC1 := Lib.hid (h2.to hb1 hb1.size)
  have HB1 := Lib.hid hb1
  have HOB := Lib.hid (tri_new w (.slice a1 o.pre.length c1) (.slice a2 o.ch.length c2) (.int .i64 o.cost) 53)
  clear h1 h2 hb1
  have hcc : ocode n o = if ccode n o.pre ≠ 0 then ccode n o.pre else if hcode n o.ch ≠ 0 then hcode n o.ch else if inB o.cost 0 100 then 0 else 3 := rfl
  by_cases hA : ccode n o.pre = 0
  case neg =>
    rw [if_pos hA] at hcc
    have H := Lib.hid hcc
    have hne : (ccode n o.pre != 0) = true := by simpa using hA
    clear hA hcc
    go_enter Try.func29, Try.ntmps29
    go_wp2_with (go_at_call 28; refine (cmpsCode_any n a1 c1 o.pre _ HP1.out).mono ?_; rintro e w2 ⟨rfl, hb2⟩; have HB2 := Lib.hid (HB1.out.trans (hb2.mono HB1.out.size)); have r1 := (HOB.out.to hb2).c1; have HO2 := Lib.hid (HOB.out.to hb2); have HC2 := Lib.hid (HC1.out.to hb2 hb2.size); clear hb2)
    go_ret
    exact ⟨ret_int H.out.symm, HB2.out⟩
  rw [if_neg (by simp [hA])] at hcc
  have hne : (ccode n o.pre != 0) = false := by simpa using hA
  clear hA
  by_cases hA : hcode n o.ch = 0
  case neg =>
    rw [if_pos hA] at hcc
    have H := Lib.hid hcc
    have hne2 : (hcode n o.ch != 0) = true := by simpa using hA
    clear hA hcc
    go_enter Try.func29, Try.ntmps29
    go_wp2_with (first | (go_at_call 28; refine (cmpsCode_any n a1 c1 o.pre _ HP1.out).mono ?_; rintro e w2 ⟨rfl, hb2⟩; have HB2 := Lib.hid (HB1.out.trans (hb2.mono HB1.out.size)); have r1 := (HOB.out.to hb2).c1; have HO2 := Lib.hid (HOB.out.to hb2); have HC2 := Lib.hid (HC1.out.to hb2 hb2.size); clear hb2) | (go_at_call 42; refine (chgsCode_any n a2 c2 o.ch _ HC2.out).mono ?_; rintro e w3 ⟨rfl, hb3⟩; have HB3 := Lib.hid (HB2.out.trans (hb3.mono HB2.out.size)); have r2 := (HO2.out.to hb3).c2; clear hb3))
    go_ret
    exact ⟨ret_int H.out.symm, HB3.out⟩
  rw [if_neg (by simp [hA])] at hcc
  have hne2 : (hcode n o.ch != 0) = false := by simpa using hA
  clear hA
  by_cases hA : o.cost < 0
  · have H := Lib.hid (show ocode n o = 3 by rw [hcc, inB_no (by omega)]; rfl)
    clear hcc
    go_enter Try.func29, Try.ntmps29
    go_wp2_with (first | (go_at_call 28; refine (cmpsCode_any n a1 c1 o.pre _ HP1.out).mono ?_; rintro e w2 ⟨rfl, hb2⟩; have HB2 := Lib.hid (HB1.out.trans (hb2.mono HB1.out.size)); have r1 := (HOB.out.to hb2).c1; have HO2 := Lib.hid (HOB.out.to hb2); have HC2 := Lib.hid (HC1.out.to hb2 hb2.size); clear hb2) | (go_at_call 42; refine (chgsCode_any n a2 c2 o.ch _ HC2.out).mono ?_; rintro e w3 ⟨rfl, hb3⟩; have HB3 := Lib.hid (HB2.out.trans (hb3.mono HB2.out.size)); have r2 := (HO2.out.to hb3).c2; clear hb3))
    go_ret
    exact ⟨ret_int H.out.symm, HB3.out⟩
  by_cases hA2 : 100 < o.cost
  · have H := Lib.hid (show ocode n o = 3 by rw [hcc, inB_no (by omega)]; rfl)
    clear hcc
    go_enter Try.func29, Try.ntmps29
    go_wp2_with (first | (go_at_call 28; refine (cmpsCode_any n a1 c1 o.pre _ HP1.out).mono ?_; rintro e w2 ⟨rfl, hb2⟩; have HB2 := Lib.hid (HB1.out.trans (hb2.mono HB1.out.size)); have r1 := (HOB.out.to hb2).c1; have HO2 := Lib.hid (HOB.out.to hb2); have HC2 := Lib.hid (HC1.out.to hb2 hb2.size); clear hb2) | (go_at_call 42; refine (chgsCode_any n a2 c2 o.ch _ HC2.out).mono ?_; rintro e w3 ⟨rfl, hb3⟩; have HB3 := Lib.hid (HB2.out.trans (hb3.mono HB2.out.size)); have r2 := (HO2.out.to hb3).c2; clear hb3))
    go_ret
    exact ⟨ret_int H.out.symm, HB3.out⟩
  have H := Lib.hid (show ocode n o = 0 by rw [hcc, inB_iff.2 (by omega)]; rfl)
  clear hcc
  go_enter Try.func29, Try.ntmps29
  go_wp2_with (first | (go_at_call 28; refine (cmpsCode_any n a1 c1 o.pre _ HP1.out).mono ?_; rintro e w2 ⟨rfl, hb2⟩; have HB2 := Lib.hid (HB1.out.trans (hb2.mono HB1.out.size)); have r1 := (HOB.out.to hb2).c1; have HO2 := Lib.hid (HOB.out.to hb2); have HC2 := Lib.hid (HC1.out.to hb2 hb2.size); clear hb2) | (go_at_call 42; refine (chgsCode_any n a2 c2 o.ch _ HC2.out).mono ?_; rintro e w3 ⟨rfl, hb3⟩; have HB3 := Lib.hid (HB2.out.trans (hb3.mono HB2.out.size)); have r2 := (HO2.out.to hb3).c2; clear hb3))
  go_ret
  exact ⟨ret_int H.out.symm, HB3.out⟩
end Go.Proofs.Ytiafplmaigpmeaa
