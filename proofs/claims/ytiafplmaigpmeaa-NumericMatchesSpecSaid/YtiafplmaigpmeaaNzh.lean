/- Solves of package numeric. -/
import Derived.Test.YtiafplmaigpmeaaNzg
namespace Go.Proofs.Ytiafplmaigpmeaa
open Go.RowKit
set_option linter.unusedSimpArgs false
set_option linter.unusedVariables false
set_option maxRecDepth 100000

theorem frN_set {w V : World} {x : NT} (h : FrN w V x 0 0) : FrN w ((V.setCell ⟨w.heap.size + 1, 0, none⟩ (.int .i64 0)).setCell ⟨w.heap.size + 1, 1, none⟩ (.int .i64 0)) x 0 0 := by
  refine ⟨(h.below.setCell (by simp) _).setCell (by simp) _, ⟨by simpa using h.box.lt, ?_, ?_, ?_⟩, h.two.set _ _⟩
  · rw [World.cell?_setCell_other _ _ _ _ (by simp), World.cell?_setCell_other _ _ _ _ (by simp)]; exact h.box.c0
  · rw [World.cell?_setCell_other _ _ _ _ (by simp), World.cell?_setCell_other _ _ _ _ (by simp)]; exact h.box.c1
  · rw [World.cell?_setCell_other _ _ _ _ (by simp), World.cell?_setCell_other _ _ _ _ (by simp)]; exact h.box.c2
theorem frS {w V : World} {x : NT} (h : FrN w V x 0 0) : V.cell? ⟨w.heap.size, 1, none⟩ = some (.slice x.ag x.goal.length x.cg) ∧ V.cell? ⟨w.heap.size + 1, 0, none⟩ = some (.int .i64 0) ∧ V.cell? ⟨w.heap.size + 1, 1, none⟩ = some (.int .i64 0) ∧ V.frozen? ⟨w.heap.size + 1, 0, none⟩ = false ∧ V.frozen? ⟨w.heap.size + 1, 1, none⟩ = false ∧ FrN w V x 0 0 := ⟨h.box.c1, h.two.fst, h.two.snd, h.two.ffst, h.two.fsnd, h⟩
set_option maxHeartbeats 4000000 in
theorem nsolves_any : NsC := by
  intro x a3 c3 plan w hX hP
  have HF0 := Lib.hid (frN_new w x 26 28)
  have hVA := nvalidate_any x _ (hX.to HF0.out.below HF0.out.below.size)
  have HX0 := Lib.hid (fun (W : World) (h : Below w.heap.size w W) => hX.to h h.size)
  have HP0 := Lib.hid (fun (W : World) (h : Below w.heap.size w W) => hP.to h h.size)
  have hmo := Nat.le_trans hX.ops.le hX.ops.max
  have hpl := hP.len
  have HX00 := Lib.hid hX
  have HP00 := Lib.hid hP
  clear hX hP
  have hB : nspB x plan = (decide ((nspF x plan).1 = 0) && nsol x plan) := rfl
  have hF : nspF x plan = if (nfF x).1 ≠ 0 then nfF x else spF x.ops.length plan := rfl
  by_cases hn : (nfF x).1 = 0
  case neg =>
    rw [if_pos hn] at hF
    have H1 := Lib.hid hF
    have H2 := Lib.hid (show nspB x plan = false by rw [hB, hF, decide_eq_false hn]; rfl)
    have HVA := Lib.hid hVA
    have hne : ((nfF x).1 != 0) = true := by simpa using hn
    have hne2 : ((nfF x).1 == 0) = false := by simpa using hn
    clear hn hVA hB hF
    go_enter Try.func12, Try.ntmps12
    go_wp2_with (go_at_call 10; (with_reducible refine HVA.out.mono ?_); rintro e w1 ⟨rfl, hb1⟩; have HF1 := Lib.hid ((HF0.out.to hb1).alloc (.cells #[.int .i64 (nfF x).1, .int .i64 (nfF x).2] 28)); obtain ⟨_, ⟨_, s0, s1, s2⟩, ⟨_, k0, k1, f0, f1⟩⟩ := HF1.out; clear hb1)
    go_region
    all_goals
      go_wp2
      refine post_with_fault (g := w.heap.size + 1) (x := .int .i64 (nfF x).1) (y := .int .i64 (nfF x).2) Try.results12 rfl (two1 (HF1.out.two.set _ _)) ?_
      rw [H1.out, H2.out]
      exact ⟨rfl, ((HF1.out.below.setCell (by simp) _).setCell (by simp) _).drew⟩
  obtain ⟨hNV, hn0⟩ := nf_val hn
  rw [if_neg (by simp [hn])] at hF
  rw [hn0] at hVA
  have HVA := Lib.hid hVA
  have HNV := Lib.hid hNV
  clear hVA hn hNV hn0
  have HPF := Lib.hid (fun (W : World) (h : Lst W W.heap.size a3 c3 plan) => planFault_any x.ops.length hmo a3 c3 plan W h)
  unfold maxLen at hmo hpl
  by_cases hs : (spF x.ops.length plan).1 = 0
  case neg =>
    have H1 := Lib.hid hF
    have H2 := Lib.hid (show nspB x plan = false by rw [hB, hF, decide_eq_false hs]; rfl)
    have hne : ((spF x.ops.length plan).1 != 0) = true := by simpa using hs
    have hne2 : ((spF x.ops.length plan).1 == 0) = false := by simpa using hs
    clear hs hB hF
    go_enter Try.func12, Try.ntmps12
    go_wp2_with (first | (go_at_call 10; (with_reducible refine HVA.out.mono ?_); rintro e w1 ⟨rfl, hb1⟩; have HF1 := Lib.hid ((HF0.out.to hb1).alloc (.cells #[.int .i64 0, .int .i64 0] 28)); obtain ⟨_, ⟨_, s0, s1, s2⟩, ⟨_, k0, k1, f0, f1⟩⟩ := HF1.out; clear hb1) | (go_at_call 30; (with_reducible refine (HPF.out _ (HP0.out _ HF1.out.below)).mono ?_); rintro e w3 ⟨rfl, hb3⟩; have HF3 := Lib.hid ((HF1.out.to hb3).alloc (.cells #[.int .i64 (spF x.ops.length plan).1, .int .i64 (spF x.ops.length plan).2] 28)); obtain ⟨_, ⟨_, u0, u1, u2⟩, ⟨_, m0, m1, h0, h1⟩⟩ := HF3.out; clear hb3))
    go_region
    all_goals
      go_wp2
      refine post_with_fault (g := w.heap.size + 1) (x := .int .i64 (spF x.ops.length plan).1) (y := .int .i64 (spF x.ops.length plan).2) Try.results12 rfl (two1 (HF3.out.two.set _ _)) ?_
      rw [H1.out, H2.out]
      exact ⟨rfl, ((HF3.out.below.setCell (by simp) _).setCell (by simp) _).drew⟩
  obtain ⟨hs0, hplb⟩ : spF x.ops.length plan = (0, 0) ∧ planB x.ops.length plan = true := by
    unfold spF at hs ⊢
    by_cases h1 : 60 < plan.length
    · rw [if_pos h1] at hs; cases hs
    · rw [if_neg h1] at hs ⊢
      cases h2 : planB x.ops.length plan
      · rw [h2] at hs; cases hs
      · exact ⟨rfl, rfl⟩
  rw [hs0] at HPF hF
  have H1 := Lib.hid hF
  have H2 := Lib.hid (show nspB x plan = nsol x plan by rw [hB, hF]; simp)
  have HPL := Lib.hid hplb
  clear hs hs0 hplb hB hF
  go_enter Try.func12, Try.ntmps12
  go_wp2_with (first | (go_at_call 10; (with_reducible refine HVA.out.mono ?_); rintro e w1 ⟨rfl, hb1⟩; have HF1 := Lib.hid ((HF0.out.to hb1).alloc (.cells #[.int .i64 0, .int .i64 0] 28)); obtain ⟨_, ⟨_, s0, s1, s2⟩, ⟨_, k0, k1, f0, f1⟩⟩ := HF1.out; clear hb1) | (go_at_call 30; (with_reducible refine (HPF.out _ (HP0.out _ HF1.out.below)).mono ?_); rintro e w3 ⟨rfl, hb3⟩; have HF3 := Lib.hid ((HF1.out.to hb3).alloc (.cells #[.int .i64 0, .int .i64 0] 28)); obtain ⟨_, ⟨_, u0, u1, u2⟩, ⟨_, m0, m1, h0, h1⟩⟩ := HF3.out; clear hb3))
  go_loopw [8, 32] (fun s i wr => ∃ (k : Nat) (u : List Int) (a : Option Addr) (c : Nat), k ≤ plan.length ∧ i = .int .i64 k ∧ s = .slice a u.length c ∧ nrun x plan k = some u ∧ Lst wr wr.heap.size a c u ∧ FrN w wr x 0 0) (fun _ i _ => plan.length - (intOf i).toNat)
  case atStart => exact ⟨0, x.init, x.ai, x.ci, by omega, rfl, rfl, rfl, (HX0.out _ HF3.out.below).init, HF3.out⟩
  case round =>
    obtain ⟨k, u, a, c, hk, rfl, rfl, hru, hl, hfr⟩ := hrel
    have HR := Lib.hid hru
    have HL := Lib.hid hl
    have HFR := Lib.hid hfr
    clear hru hl hfr HF3 HF1 s0 s1 s2 k0 k1 f0 f1 u0 u1 u2 m0 m1 h0 h1
    obtain ⟨_, ⟨_, u0, u1, u2⟩, ⟨_, m0, m1, h0, h1⟩⟩ := HFR.out
    have hn1 := HNV.out.n1
    have hn8 := HNV.out.n8
    have HUV := Lib.hid (nrun_vok HNV.out _ _ HR.out)
    by_cases hlt : k < plan.length
    case neg =>
      obtain rfl : k = plan.length := by omega
      have hge : ¬ ((plan.length : Int) < plan.length) := by omega
      have HS := Lib.hid (show nsol x plan = sat x.goal u by unfold nsol; rw [HR.out])
      have hul : u.length ≤ 8 := by have := HUV.out.len; omega
      have HEX := Lib.hid (fun (V : World) (h : Below wr.heap.size wr V) => exactly_any a c u hul V (HL.out.to h h.size))
      have HMH := Lib.hid (fun (b : Option Addr) (d : Nat) (W : World) (h : Below w.heap.size w W) (hp : PrL W W.heap.size b d (exl u)) => mayHold_any x.init.length hn8 x.ag b x.cg d x.goal (exl u) HNV.out.goal.2 (exl_ok HUV.out) W (HX0.out W h).goal hp)
      rw [poss_ex] at HMH
      clear hul
      go_wp2
      go_region_held3 (fun V => V.cell? ⟨w.heap.size, 1, none⟩ = some (.slice x.ag x.goal.length x.cg) ∧ V.cell? ⟨w.heap.size + 1, 0, none⟩ = some (.int .i64 0) ∧ V.cell? ⟨w.heap.size + 1, 1, none⟩ = some (.int .i64 0) ∧ V.frozen? ⟨w.heap.size + 1, 0, none⟩ = false ∧ V.frozen? ⟨w.heap.size + 1, 1, none⟩ = false ∧ FrN w V x 0 0) (first | assumption | (refine ⟨?_, ?_, ?_, ?_, ?_, ?_⟩ <;> assumption) | (exact frS HFR.out) | (exact frS (HFR.out.to (Below.refl _ _).drew)) | (exact frS (FrN.to (last6n (by assumption)) (by assumption))) | (exact frS (frN_set (last6n (by assumption))))) (first | (go_at_call 33; (with_reducible refine (HEX.out _ ?_).mono ?_); (first | exact (Below.refl _ _).drew | exact Below.refl _ _); rintro e w5 ⟨vv, rfl, ho1, hb⟩; obtain ⟨b1, d1, rfl, hp1⟩ := owp_prl ho1; have HP1 := Lib.hid hp1; clear ho1 hp1) | (go_at_call 32; (with_reducible refine (HMH.out _ _ _ ?_ HP1.out).mono ?_); (exact (FrN.below (last6n (by assumption)))); rintro e w6 ⟨rfl, hb6⟩))
      all_goals
        have HF6 := Lib.hid (((HFR.out.to (Below.refl _ _).drew).to hb).to hb6)
        go_wp2
        refine post_with_fault (g := w.heap.size + 1) (x := .int .i64 0) (y := .int .i64 0) Try.results12 rfl (HF6.out.two.set _ _) ?_
        rw [H1.out, H2.out, HS.out]
        exact ⟨rfl, (HF6.out.below.setCell (by simp) _).setCell (by simp) _⟩
    case pos =>
      obtain ⟨b, o, rfl, hbl, hc0⟩ := (HP0.out _ HFR.out.below).nums.at_ hlt
      obtain ⟨g0, g1⟩ := planB_at HPL.out hlt
      have hstep := nrun_step HR.out
      obtain ⟨m, hm⟩ := Int.eq_ofNat_of_zero_le g0
      rw [hm, Int.toNat_natCast] at hstep
      rw [hm] at g1 hc0
      have hmo2 : m < x.ops.length := by omega
      clear hm g0
      obtain ⟨b2, p, a1, a2, c1, c2, hao, hbl2, hq0, hpre0, hch0⟩ := HX00.out.ops.at_ hmo2
      have HAO := Lib.hid hao
      rw [hao] at u2
      obtain ⟨q0, q1, q2⟩ := hq0.to HFR.out.below hbl2
      have HOK := HNV.out.ops m hmo2
      clear hq0 hao
      generalize nop x.ops m = oo at *
      have HAF := Lib.hid (fun (W : World) (h : Below w.heap.size w W) (hl : Lst W W.heap.size a c u) => after_any x.init.length hn1 hn8 oo HOK u HUV.out a1 a2 a c1 c2 c W (hpre0.to h h.size) (hch0.to h h.size) hl)
      clear hpre0 hch0 HOK
      generalize naf oo u = r at *
      have HS := Lib.hid hstep
      clear hstep
      by_cases h0 : r.2 = 0
      · have HS2 := Lib.hid (show nrun x plan (k + 1) = some r.1 by rw [HS.out, if_pos h0])
        have hq : (r.2 != 0) = false := by simpa using h0
        clear h0
        go_wp2_with (go_at_call 31; (with_reducible refine (HAF.out _ HFR.out.below HL.out).mono ?_); rintro e w4 ⟨vv, rfl, ho4, hb4⟩; obtain ⟨a4, c4, rfl, hl4, _⟩ := own_lst ho4; have HL4 := Lib.hid hl4; have HF4 := Lib.hid (HFR.out.to hb4); obtain ⟨_, ⟨_, x0, x1, x2⟩, ⟨_, y0, y1, z0, z1⟩⟩ := HF4.out; clear ho4 hb4 hl4)
        go_roundw
        case rel => exact ⟨k + 1, r.1, a4, c4, by omega, by go_num, rfl, HS2.out, HL4.out, HF4.out⟩
        case measure => simp [intOf]; omega
      · have HS2 := Lib.hid (show nsol x plan = false by
          unfold nsol
          rw [nrun_none (k := k + 1) (by rw [HS.out, if_neg h0]) plan.length (by omega)])
        have hq : (r.2 != 0) = true := by simpa using h0
        clear h0
        go_wp2_with (go_at_call 31; (with_reducible refine (HAF.out _ HFR.out.below HL.out).mono ?_); rintro e w4 ⟨vv, rfl, ho4, hb4⟩; obtain ⟨a4, c4, rfl, hl4, _⟩ := own_lst ho4; have HL4 := Lib.hid hl4; have HF4 := Lib.hid (HFR.out.to hb4); obtain ⟨_, ⟨_, x0, x1, x2⟩, ⟨_, y0, y1, z0, z1⟩⟩ := HF4.out; clear ho4 hb4 hl4)
        refine post_with_fault (g := w.heap.size + 1) (x := .int .i64 0) (y := .int .i64 0) Try.results12 rfl (HF4.out.two.set _ _) ?_
        rw [H1.out, H2.out, HS2.out]
        exact ⟨rfl, (HF4.out.below.setCell (by simp) _).setCell (by simp) _⟩
end Go.Proofs.Ytiafplmaigpmeaa
