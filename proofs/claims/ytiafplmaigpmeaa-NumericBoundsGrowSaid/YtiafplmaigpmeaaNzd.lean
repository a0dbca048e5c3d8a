/- Bounds of package numeric. -/
import Derived.Test.YtiafplmaigpmeaaNzb
namespace Go.Proofs.Ytiafplmaigpmeaa
open Go.RowKit
set_option linter.unusedSimpArgs false
set_option linter.unusedVariables false
set_option maxRecDepth 100000

theorem prl_nil (w : World) (B : Nat) : PrL w B none 0 [] := ⟨fun h => by simp at h, by simp, by simp [maxLen]⟩
set_option maxHeartbeats 4000000 in
theorem nbounds_any : NbC := by
  intro x n w hX
  have HF0 := Lib.hid (frN_new w x 26 28)
  have hVA := nvalidate_any x _ (hX.to HF0.out.below HF0.out.below.size)
  have HX0 := Lib.hid (fun (W : World) (h : Below w.heap.size w W) => hX.to h h.size)
  clear hX
  have hF : nbF x n = if (nfF x).1 ≠ 0 then nfF x else if inB n 0 60 then (0, 0) else (3, -5) := rfl
  have hL : nbL x n = if (nbF x n).1 = 0 then bdn x n.toNat else [] := rfl
  by_cases hn : (nfF x).1 = 0
  case neg =>
    rw [if_pos hn] at hF
    rw [hF, if_neg hn] at hL
    have H1 := Lib.hid hF
    have H2 := Lib.hid hL
    have HVA := Lib.hid hVA
    have hne : ((nfF x).1 != 0) = true := by simpa using hn
    have hne2 : ((nfF x).1 == 0) = false := by simpa using hn
    clear hn hVA hF hL
    go_enter Try.func21, Try.ntmps21
    go_wp2_with (go_at_call 10; (with_reducible refine HVA.out.mono ?_); rintro e w1 ⟨rfl, hb1⟩; have HF1 := Lib.hid ((HF0.out.to hb1).alloc (.cells #[.int .i64 (nfF x).1, .int .i64 (nfF x).2] 28)); obtain ⟨_, ⟨_, s0, s1, s2⟩, ⟨_, k0, k1, f0, f1⟩⟩ := HF1.out; clear hb1)
    go_region
    all_goals
      go_wp2
      refine post_with_fault (g := w.heap.size + 1) (x := .int .i64 (nfF x).1) (y := .int .i64 (nfF x).2) Try.results21 rfl (two1 (HF1.out.two.set _ _)) ?_
      rw [H1.out, H2.out]
      exact ⟨none, 0, rfl, prl_nil _ _, ((HF1.out.below.setCell (by simp) _).setCell (by simp) _).drew⟩
  obtain ⟨hNV, hn0⟩ := nf_val hn
  rw [if_neg (by simp [hn])] at hF
  rw [hn0] at hVA
  have HVA := Lib.hid hVA
  have HNV := Lib.hid hNV
  clear hVA hn hNV hn0
  by_cases hs : n < 0
  · rw [inB_no (by omega), if_neg (by simp)] at hF
    rw [hF, if_neg (by simp)] at hL
    have H1 := Lib.hid hF
    have H2 := Lib.hid hL
    clear hF hL
    go_enter Try.func21, Try.ntmps21
    go_wp2_with (go_at_call 10; (with_reducible refine HVA.out.mono ?_); rintro e w1 ⟨rfl, hb1⟩; have HF1 := Lib.hid ((HF0.out.to hb1).alloc (.cells #[.int .i64 0, .int .i64 0] 28)); obtain ⟨_, ⟨_, s0, s1, s2⟩, ⟨_, k0, k1, f0, f1⟩⟩ := HF1.out; clear hb1)
    refine post_with_fault (g := w.heap.size + 1) (x := .int .i64 3) (y := .int .i64 (-5)) Try.results21 rfl (HF1.out.two.set _ _) ?_
    rw [H1.out, H2.out]
    exact ⟨none, 0, rfl, prl_nil _ _, (HF1.out.below.setCell (by simp) _).setCell (by simp) _⟩
  by_cases hs2 : 60 < n
  · rw [inB_no (by omega), if_neg (by simp)] at hF
    rw [hF, if_neg (by simp)] at hL
    have H1 := Lib.hid hF
    have H2 := Lib.hid hL
    clear hF hL
    go_enter Try.func21, Try.ntmps21
    go_wp2_with (go_at_call 10; (with_reducible refine HVA.out.mono ?_); rintro e w1 ⟨rfl, hb1⟩; have HF1 := Lib.hid ((HF0.out.to hb1).alloc (.cells #[.int .i64 0, .int .i64 0] 28)); obtain ⟨_, ⟨_, s0, s1, s2⟩, ⟨_, k0, k1, f0, f1⟩⟩ := HF1.out; clear hb1)
    refine post_with_fault (g := w.heap.size + 1) (x := .int .i64 3) (y := .int .i64 (-5)) Try.results21 rfl (HF1.out.two.set _ _) ?_
    rw [H1.out, H2.out]
    exact ⟨none, 0, rfl, prl_nil _ _, (HF1.out.below.setCell (by simp) _).setCell (by simp) _⟩
  rw [inB_iff.2 (by omega), if_pos rfl] at hF
  rw [hF, if_pos rfl] at hL
  obtain ⟨q, rfl⟩ := Int.eq_ofNat_of_zero_le (show 0 ≤ n by omega)
  rw [Int.toNat_natCast] at hL
  have H1 := Lib.hid hF
  have H2 := Lib.hid hL
  have hq : q ≤ 60 := by omega
  have h8 : x.init.length ≤ 8 := HNV.out.n8
  have HEX := Lib.hid (fun (W : World) (h : Below w.heap.size w W) => exactly_any x.ai x.ci x.init h8 W (HX0.out W h).init)
  clear hF hL h8
  go_enter Try.func21, Try.ntmps21
  go_wp2_with (first | (go_at_call 10; (with_reducible refine HVA.out.mono ?_); rintro e w1 ⟨rfl, hb1⟩; have HF1 := Lib.hid ((HF0.out.to hb1).alloc (.cells #[.int .i64 0, .int .i64 0] 28)); obtain ⟨_, ⟨_, s0, s1, s2⟩, ⟨_, k0, k1, f0, f1⟩⟩ := HF1.out; clear hb1) | (go_at_call 33; (with_reducible refine (HEX.out _ HF1.out.below).mono ?_); rintro e w2 ⟨vv, rfl, ho1, hb⟩; obtain ⟨b1, d1, rfl, hp1⟩ := owp_prl ho1; have HO2 := Lib.hid (own_mono (b2 := w.heap.size + 1 + 1) ho1 HF1.out.two.lt); have HF2 := Lib.hid (HF1.out.to hb); clear ho1 hp1 hb))
  go_loopw [7, 25] (fun s i wr => ∃ (k : Nat) (a : Option Addr) (c : Nat), k ≤ q ∧ i = .int .i64 k ∧ s = .slice a (bdn x k).length c ∧ OwP wr (w.heap.size + 1 + 1) (.slice a (bdn x k).length c) (bdn x k) ∧ FrN w wr x 0 0) (fun _ i _ => q - (intOf i).toNat)
  case atStart => exact ⟨0, b1, d1, by omega, rfl, rfl, HO2.out, HF2.out⟩
  case round =>
    obtain ⟨k, a, c, hk, rfl, rfl, hp, hfr⟩ := hrel
    have HO := Lib.hid hp
    obtain ⟨_, _, ee, hpp⟩ := owp_prl hp
    cases ee
    have HP := Lib.hid hpp
    clear hpp
    have HFR := Lib.hid hfr
    clear hp hfr HF1 HF2 HO2 s0 s1 s2 k0 k1 f0 f1
    obtain ⟨_, ⟨_, s0, s1, s2⟩, ⟨_, k0, k1, f0, f1⟩⟩ := HFR.out
    by_cases hlt : k < q
    case neg =>
      obtain rfl : k = q := by omega
      have hge : ¬ ((k : Int) < (k : Int)) := by omega
      go_wp2
      refine post_with_fault (g := w.heap.size + 1) (x := .int .i64 0) (y := .int .i64 0) Try.results21 rfl (HFR.out.two.set _ _) ?_
      rw [H1.out, H2.out]
      obtain ⟨_, _, ee, hpp⟩ := owp_prl (own_far2 (own_far2 HO.out (p := ⟨w.heap.size + 1, 0, none⟩) (Nat.lt_succ_self _) (.int .i64 0)) (p := ⟨w.heap.size + 1, 1, none⟩) (Nat.lt_succ_self _) (.int .i64 0))
      cases ee
      exact ⟨a, c, rfl, hpp, (HFR.out.below.setCell (by simp) _).setCell (by simp) _⟩
    case pos =>
      have hED := extended_any x HNV.out (bdn x k) (bdn_ok HNV.out k) a c wr (HX0.out _ HFR.out.below).ops HP.out
      have HED := Lib.hid (show Calls Try.prog 38 #[.slice x.ao x.ops.length x.co, .slice a (bdn x k).length c] wr (BdO wr (bdn x (k + 1))) from hED)
      clear hED
      go_wp2_with (go_at_call 38; (with_reducible refine HED.out.mono ?_); rintro e w3 ⟨vv, rfl, ho1, hb⟩; obtain ⟨b3, d3, rfl, hp3⟩ := owp_prl ho1; have HO3 := Lib.hid (own_mono (b2 := w.heap.size + 1 + 1) ho1 HFR.out.two.lt); have HF3 := Lib.hid (HFR.out.to hb); clear ho1 hp3 hb)
      go_roundw
      case rel => exact ⟨k + 1, b3, d3, by omega, by go_num, rfl, HO3.out, HF3.out⟩
      case measure => simp [intOf]; omega
end Go.Proofs.Ytiafplmaigpmeaa
