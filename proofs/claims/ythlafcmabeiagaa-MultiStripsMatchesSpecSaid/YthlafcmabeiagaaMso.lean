/- MultiSolves of the reference. -/
import Derived.Test.YthlafcmabeiagaaMaf
namespace Go.Proofs.Ythlafcmabeiagaa
open Go.RowKit
set_option linter.unusedSimpArgs false
set_option linter.unusedVariables false
set_option maxRecDepth 100000

/-- A state in memory. -/
structure StM (W : World) (s : Value) (t : List Int) : Prop where
  ex : ∃ a c, s = .slice a t.length c ∧ Lst W W.heap.size a c t ∧ (a = none → c = 0)
theorem StM.to {W W' : World} {s : Value} {t : List Int} (h : StM W s t) (hb : Below W.heap.size W W') : StM W' s t := by
  obtain ⟨a, c, e, hl, h0⟩ := h.ex
  exact ⟨a, c, e, hl.to hb hb.size, h0⟩
theorem stM_own {W : World} {base : Nat} {v : Value} {t : List Int} (h : W.ownsRow base 3 1 v t.length (t.map (Value.int .i64))) : StM W v t := by
  obtain ⟨a, c, e, hl, h0⟩ := own_lst h
  exact ⟨a, c, e, hl, h0⟩
set_option maxHeartbeats 4000000 in
theorem msolves_any (x : MT) (hv : MVal x) (A : Option Addr) (c : Nat) (plan : List Int) (hp : planB x.ops.length plan = true) (w : World) (hX : MTIn w w.heap.size x) (hP : Lst w w.heap.size A c plan) :
    Calls Try.prog 21 #[.agg #[.slice x.az x.sizes.length x.cz, .slice x.ai x.init.length x.ci, .slice x.ag x.goal.length x.cg, .slice x.ao x.ops.length x.co], .slice A plan.length c] w fun e w' => e = .returned (.bool (msol x plan)) ∧ Below w.heap.size w w' := by
  have hno := hv.m
  have hnp := hP.len
  unfold maxLen at hnp
  have HX := Lib.hid (bxM_new w x 26)
  have HX0 := Lib.hid (fun (W : World) (h : Below w.heap.size w W) => hX.to h h.size)
  have HP0 := Lib.hid (fun (W : World) (h : Below w.heap.size w W) => hP.to h h.size)
  have HST0 := Lib.hid (show StM (w.alloc (.cells #[.slice x.az x.sizes.length x.cz, .slice x.ai x.init.length x.ci, .slice x.ag x.goal.length x.cg, .slice x.ao x.ops.length x.co] 26)) (.slice x.ai x.init.length x.ci) x.init from ⟨x.ai, x.ci, rfl, (HX0.out _ HX.out.below).init, hX.nil⟩)
  have HV := Lib.hid hv
  have HPB := Lib.hid (fun k (hk : k < plan.length) => planB_at hp hk)
  clear hX hP hv hp
  go_enter Try.func21, Try.ntmps21
  go_wp2
  go_loopw [5, 6] (fun s i wr => ∃ (k : Nat) (t : List Int), k ≤ plan.length ∧ i = .int .i64 k ∧ mrun x.ops plan x.init k = some t ∧ msB x.sizes t = true ∧ StM wr s t ∧ BxM w wr x) (fun _ i _ => plan.length - (intOf i).toNat)
  case atStart => exact ⟨0, x.init, by omega, rfl, rfl, HV.out.init, HST0.out, HX.out⟩
  case round =>
    obtain ⟨k, t, hk, rfl, hr, hm, hst, hx⟩ := hrel
    have HR := Lib.hid hr
    have HM := Lib.hid hm
    have HST := Lib.hid hst
    have HX2 := Lib.hid hx
    clear hr hm hst hx
    obtain ⟨a, ca, rfl, htl, htn⟩ := HST.out.ex
    have HTL := Lib.hid (fun (W : World) (h : Below wr.heap.size wr W) => htl.to h h.size)
    have HTN := Lib.hid htn
    clear htl htn
    obtain ⟨_, ⟨_, t0, t1, t2, t3⟩⟩ := HX2.out
    by_cases hlt : k < plan.length
    case neg =>
      obtain rfl : k = plan.length := by omega
      have hge : ¬ ((plan.length : Int) < plan.length) := by omega
      have H := Lib.hid (msol_end HR.out)
      have HMH := Lib.hid (mholds_any x.sizes a x.ag ca x.cg t x.goal HV.out.goal (ms_len HM.out) wr (HTL.out _ (Below.refl _ _)) (HX0.out _ HX2.out.below).goal)
      go_wp2_with (go_at_call 12; (with_reducible refine HMH.out.mono ?_); rintro e w5 ⟨rfl, m5, rfl⟩)
      go_ret
      exact ⟨ret_val (by rw [H.out]; rfl), (HX2.out.to (dr_b _ _)).below⟩
    case pos =>
      obtain ⟨g0, g1⟩ := HPB.out k hlt
      obtain ⟨b, o, hap, hbp, hc⟩ := (HP0.out _ HX2.out.below).nums.at_ hlt
      obtain ⟨m, hm⟩ := Int.eq_ofNat_of_zero_le g0
      have HS1 := Lib.hid (show (ix plan k).toNat = m by rw [hm]; rfl)
      rw [hm] at hc g0 g1
      have hlm : m < x.ops.length := by omega
      subst hap
      have HPC := Lib.hid (fun (W : World) (h : Below wr.heap.size wr W) => (h.cell (p := ⟨b, o + k, none⟩) hbp).trans hc)
      obtain ⟨b2, p2, a1, a2, c1, c2, hao, hbl, ⟨q0, q1, q2⟩, hpre, hpost⟩ := (HX0.out _ HX2.out.below).ops.at_ hlm
      have HMH := Lib.hid (fun (n : Nat) => mholds_any x.sizes a a1 ca c1 t (mop x.ops m).pre (HV.out.pre m hlm) (ms_len HM.out) (wr.drewN n) (HTL.out _ (dr_b _ _)) (hpre.to (dr_b _ _) (dr_b wr n).size))
      have HAO := Lib.hid hao
      rw [hao] at t3
      have hbd := HV.out.sz.n8
      have hb1 := HV.out.sz.n1
      have hml := ms_len HM.out
      clear hm hao hpre hpost
      have HMA := Lib.hid (fun (W : World) (h : Below wr.heap.size wr W) => mafter_any x x.sizes a ca t m hlm (HV.out.post m hlm) hml (by omega) (by omega) HTN.out W (HX0.out _ (HX2.out.below.trans (h.mono HX2.out.below.size))) (HTL.out _ h))
      clear hbd hb1 hml
      cases hh : holdB t (mop x.ops m).pre
      · have H := Lib.hid (msol_bad hlt HR.out (by rw [HS1.out]; exact hh))
        rw [hh] at HMH
        clear hh
        go_wp2
        go_quiet ((go_at_call 12; exact Calls.quiet_of (HMH.out _)))
        go_wp2
        go_ret
        exact ⟨ret_val (by rw [H.out]; rfl), (HX2.out.to (dr_b _ _)).below⟩
      · have H := Lib.hid (mrun_step HR.out (by rw [HS1.out]; exact hh))
        rw [hh] at HMH
        clear hh
        go_wp2
        go_quiet ((go_at_call 12; exact Calls.quiet_of (HMH.out _)))
        go_wp2
        generalize hW1 : wr.drewN _ = W1
        have hb1 : Below wr.heap.size wr W1 := by rw [← hW1]; exact dr_b _ _
        have HX3 := Lib.hid (HX2.out.to hb1)
        have HB1 := Lib.hid hb1
        clear t0 t1 t2 t3 q0 q1 q2 hc hW1 hb1
        obtain ⟨_, ⟨_, t0, t1, t2, t3⟩⟩ := HX3.out
        have hc := HPC.out _ HB1.out
        have HMB := Lib.hid (HMA.out W1.drew HB1.out.drew)
        refine wp_region_still_tail 6 (by kernel_rfl) (by kernel_rfl) ?_
        simp only [List.take_succ_cons, List.take_zero, List.drop_succ_cons, List.drop_zero]
        change wpStill _ _ W1.drew _ _ _
        repeat still_step
        try refine wpStill_nil ?_
        change wpList _ _ _ _ _ W1.drew
        go_wp2_with (go_at_call 17; (with_reducible refine HMB.out.mono ?_); rintro e w6 ⟨v6, rfl, ho6, hb6⟩; have HO6 := Lib.hid (stM_own ho6); have HX6 := Lib.hid (HX3.out.to ((Below.refl _ _).drew.trans hb6)); clear ho6 hb6)
        go_roundw
        case rel => exact ⟨k + 1, _, by omega, by go_num, H.out, ms_aft (HV.out.post _ (by rw [HS1.out]; exact hlm)) HM.out, by rw [HS1.out]; exact HO6.out, HX6.out⟩
        case measure => simp [intOf]; omega
end Go.Proofs.Ythlafcmabeiagaa
