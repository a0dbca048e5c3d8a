/- Solves and Cost of package multi. -/
import Derived.Test.YthlafcmabeiagaaDoorMzd
namespace Go.Proofs.YthlafcmabeiagaaDoor
open Go.RowKit
set_option linter.unusedSimpArgs false
set_option linter.unusedVariables false
set_option maxRecDepth 100000


/-- A value and a fault. -/
def VlF (w : World) (v : Value) (f : Int × Int) (e : Ending) (w' : World) : Prop := e = .returned (.tuple #[v, faultV f]) ∧ Below w.heap.size w w'
def slB (x : MT) (plan : List Int) : Bool := if (ckM x x.init plan).1 = 0 then msol x plan else false
def coN (x : MT) (plan : List Int) : Int := if (ckM x x.init plan).1 = 0 then mcost x.ops plan plan.length else 0
set_option maxHeartbeats 4000000 in
theorem msolve_any (x : MT) (A : Option Addr) (c : Nat) (plan : List Int) (w : World) (hX : MTIn w w.heap.size x) (hP : Lst w w.heap.size A c plan) :
    Calls Tryd.prog 16 #[.agg #[.slice x.az x.sizes.length x.cz, .slice x.ai x.init.length x.ci, .slice x.ag x.goal.length x.cg, .slice x.ao x.ops.length x.co], .slice A plan.length c] w (VlF w (.bool (slB x plan)) (ckM x x.init plan)) := by
  have hF := Lib.hid (frM_new w x 26 31)
  have HCK := Lib.hid (mcheck_any x x.ai A x.ci c x.init plan _ (hX.to hF.out.below hF.out.below.size) (hX.init.to hF.out.below hF.out.below.size) (hP.to hF.out.below hF.out.below.size))
  by_cases hn : (ckM x x.init plan).1 = 0
  case neg =>
    have H := Lib.hid (show slB x plan = false by unfold slB; rw [if_neg hn])
    rw [H.out]
    clear H hX hP
    generalize ckM x x.init plan = r at *
    have hne : (r.1 != 0) = true := by simpa using hn
    have hne2 : (r.1 == 0) = false := by simpa using hn
    clear hn
    go_enter Tryd.func16, Tryd.ntmps16
    go_wp2_with (go_at_call 23; (with_reducible refine HCK.out.mono ?_); rintro e w1 ⟨rfl, hb1⟩; have hF := Lib.hid ((hF.out.to hb1).to (al_b w1 (.cells #[.int .i64 r.1, .int .i64 r.2] 31))); obtain ⟨_, ⟨_, t0, t1, t2, t3⟩, ⟨_, k0, k1, f0, f1⟩⟩ := hF.out; clear hb1)
    go_region
    all_goals
      go_wp2
      refine post_with_fault (g := w.heap.size + 1) (x := .int .i64 r.1) (y := .int .i64 r.2) Tryd.results16 rfl (two1 (hF.out.two.set _ _)) ?_
      exact ⟨rfl, ((hF.out.below.setCell (by simp) _).setCell (by simp) _).drew⟩
  have H := Lib.hid (show slB x plan = msol x plan by unfold slB; rw [if_pos hn])
  rw [H.out]
  obtain ⟨hv, hm, hp, hpl, hz⟩ := ck_ok hn
  rw [hz] at HCK ⊢
  have h1 : 1 ≤ x.init.length := by have := hv.sz.n1; have := ms_len hm; omega
  have h8 : x.init.length ≤ 8 := by have := hv.sz.n8; have := ms_len hm; omega
  have HX0 := Lib.hid (fun (W : World) (h : Below w.heap.size w W) => hX.to h h.size)
  have HP0 := Lib.hid (fun (W : World) (h : Below w.heap.size w W) => hP.to h h.size)
  have HCL := Lib.hid (fun (W : World) (h : Below w.heap.size w W) => clone_any x.ai x.ci x.init W (hX.init.to h h.size) hX.nil (by omega))
  have HXW := Lib.hid hX
  have HV := Lib.hid hv
  have HPB := Lib.hid (fun k (hk : k < plan.length) => planB_at hp hk)
  have hmo := hv.m
  clear H hn hz hX hP hv hm hp h8
  go_enter Tryd.func16, Tryd.ntmps16
  go_wp2_with (first | (go_at_call 23; (with_reducible refine HCK.out.mono ?_); rintro e w1 ⟨rfl, hb1⟩; have hF := Lib.hid ((hF.out.to hb1).to (al_b w1 (.cells #[.int .i64 0, .int .i64 0] 31))); obtain ⟨_, ⟨_, t0, t1, t2, t3⟩, ⟨_, k0, k1, f0, f1⟩⟩ := hF.out; clear hb1) | (go_at_call 24; (with_reducible refine (HCL.out _ hF.out.below).mono ?_); rintro e w3 ⟨v3, rfl, ho3, hb3⟩; obtain ⟨g, cap, rfl, hg, hgl⟩ := own_some1 ho3 h1; have HG := Lib.hid hg; have hR := Lib.hid ho3; have hBS := Lib.hid (show w.heap.size + 2 ≤ (w1.alloc (.cells #[.int .i64 0, .int .i64 0] 31)).heap.size from hF.out.two.lt); have hF := Lib.hid (hF.out.to hb3); obtain ⟨_, ⟨_, t0, t1, t2, t3⟩, ⟨_, k0, k1, f0, f1⟩⟩ := hF.out; clear ho3 hb3 hg hgl))
  have hBS3 := Lib.hid (show (w1.alloc (.cells #[.int .i64 0, .int .i64 0] 31)).heap.size ≤ w3.heap.size from hR.out.lt g rfl |>.2 |> fun h => by have := HG.out; omega)
  generalize (w1.alloc (.cells #[.int .i64 0, .int .i64 0] 31)).heap.size = base at *
  go_loopw [24] (fun i wr => ∃ (k : Nat) (t : List Int), k ≤ plan.length ∧ i = .int .i64 k ∧ mrun x.ops plan x.init k = some t ∧ msB x.sizes t = true ∧ Row wr base g cap t ∧ base ≤ wr.heap.size ∧ FrM w wr x 0 0) (fun i _ => plan.length - (intOf i).toNat)
  case atStart => exact ⟨0, x.init, by omega, rfl, rfl, HV.out.init, hR.out, hBS3.out, hF.out⟩
  case round =>
    rename_i wr
    clear t0 t1 t2 t3 k0 k1 f0 f1 HCK hR
    clear hF
    obtain ⟨k, t, hk, rfl, hr, hm, ho, hbb, hf⟩ := hrel
    have HR := Lib.hid hr
    have HM := Lib.hid hm
    have hR := Lib.hid ho
    have HBW := Lib.hid hbb
    have hF := Lib.hid hf
    clear hr hm ho hbb hf
    obtain ⟨_, ⟨_, t0, t1, t2, t3⟩, ⟨_, k0, k1, f0, f1⟩⟩ := hF.out
    have htl : t.length = x.init.length := by rw [ms_len HM.out, ms_len HV.out.init]
    by_cases hlt : k < plan.length
    case neg =>
      obtain rfl : k = plan.length := by omega
      have hge : ¬ ((plan.length : Int) < plan.length) := by omega
      have HS := Lib.hid (msol_end HR.out)
      have HHO := Lib.hid (holds_any x.sizes (some ⟨g, 0, none⟩) x.ag cap x.cg t x.goal HV.out.goal (ms_len HM.out) wr (HX0.out _ hF.out.below).goal (own_l2 hR.out))
      rw [htl] at HHO
      clear htl
      go_wp2_with (go_at_call 31; (with_reducible refine HHO.out.mono ?_); rintro e w5 ⟨rfl, hb5⟩; have hF := Lib.hid (hF.out.to hb5); clear hb5; obtain ⟨_, ⟨_, t0, t1, t2, t3⟩, ⟨_, k0, k1, f0, f1⟩⟩ := hF.out)
      refine post_with_fault (g := w.heap.size + 1) (x := .int .i64 0) (y := .int .i64 0) Tryd.results16 rfl (hF.out.two.set _ _) ?_
      rw [HS.out]
      exact ⟨rfl, (hF.out.below.setCell (by simp) _).setCell (by simp) _⟩
    obtain ⟨b, o, rfl, hbl, hc0⟩ := (HP0.out _ hF.out.below).nums.at_ hlt
    obtain ⟨g0, g1⟩ := HPB.out k hlt
    obtain ⟨m, hm⟩ := Int.eq_ofNat_of_zero_le g0
    have HS1 := Lib.hid (show (ix plan k).toNat = m by rw [hm]; rfl)
    rw [hm] at g1 hc0
    have hmo2 : m < x.ops.length := by omega
    clear hm g0
    obtain ⟨b2, p, a1, a2, c1, c2, hao, hbl2, hq0, hpre0, hpost0⟩ := HXW.out.ops.at_ hmo2
    have HAO := Lib.hid hao
    rw [hao] at t3
    obtain ⟨q0, q1, q2⟩ := hq0.to hF.out.below hbl2
    have HST := Lib.hid (step_any x.sizes a1 a2 c1 c2 (mop x.ops m) (HV.out.pre m hmo2) (HV.out.post m hmo2) t (ms_len HM.out) base g cap wr HBW.out HG.out hR.out (hpre0.to hF.out.below (by have := hBS.out; omega)) (hpost0.to hF.out.below (by have := hBS.out; omega)))
    rw [htl] at HST
    clear hq0 hao hpre0 hpost0 htl
    cases hh : holdB t (mop x.ops m).pre
    · have HS := Lib.hid (msol_bad hlt HR.out (by rw [HS1.out]; exact hh))
      have HSF := Lib.hid hh
      have HST := Lib.hid (HST.out.mono (fun e w' (q : StP wr base g cap t (mop x.ops m) e w') => show e = .returned (.bool false) ∧ True ∧ Below base wr w' by
        have q1 := q.1; rw [HSF.out] at q1; exact ⟨q1, trivial, q.2.2⟩))
      clear hh
      rw [HS.out]
      go_wp2_with (go_at_call 25; (with_reducible refine HST.out.mono ?_); rintro e w4 ⟨rfl, hr4, hb4⟩; have hF := Lib.hid (hF.out.toB hb4 hBS.out); have hR := Lib.hid hr4; obtain ⟨_, ⟨_, t0, t1, t2, t3⟩, ⟨_, k0, k1, f0, f1⟩⟩ := hF.out; clear hr4 hb4)
      refine post_with_fault (g := w.heap.size + 1) (x := .int .i64 0) (y := .int .i64 0) Tryd.results16 rfl (hF.out.two.set _ _) ?_
      exact ⟨rfl, (hF.out.below.setCell (by simp) _).setCell (by simp) _⟩
    · have HS := Lib.hid (mrun_step HR.out (by rw [HS1.out]; exact hh))
      have HSF := Lib.hid hh
      have HST := Lib.hid (HST.out.mono (fun e w' (q : StP wr base g cap t (mop x.ops m) e w') => show e = .returned (.bool true) ∧ (Row w' base g cap (aft t (mop x.ops m).post) ∧ base ≤ w'.heap.size) ∧ Below base wr w' by
        have q1 := q.1; have q2 := q.2.1; rw [HSF.out] at q1 q2; exact ⟨q1, ⟨q2, by have := q.2.2.size; have := HBW.out; omega⟩, q.2.2⟩))
      clear hh
      go_wp2_with (go_at_call 25; (with_reducible refine HST.out.mono ?_); rintro e w4 ⟨rfl, hr4, hb4⟩; have hF := Lib.hid (hF.out.toB hb4 hBS.out); have hR := Lib.hid hr4; obtain ⟨_, ⟨_, t0, t1, t2, t3⟩, ⟨_, k0, k1, f0, f1⟩⟩ := hF.out; clear hr4 hb4)
      go_roundw
      case rel => exact ⟨k + 1, _, by omega, by go_num, HS.out, by rw [HS1.out]; exact ms_aft (HV.out.post m hmo2) HM.out, by rw [HS1.out]; exact hR.out.1, hR.out.2, hF.out⟩
      case measure => simp [intOf]; omega

set_option maxHeartbeats 4000000 in
theorem mcost_any (x : MT) (A : Option Addr) (c : Nat) (plan : List Int) (w : World) (hX : MTIn w w.heap.size x) (hP : Lst w w.heap.size A c plan) :
    Calls Tryd.prog 17 #[.agg #[.slice x.az x.sizes.length x.cz, .slice x.ai x.init.length x.ci, .slice x.ag x.goal.length x.cg, .slice x.ao x.ops.length x.co], .slice A plan.length c] w (VlF w (.int .i64 (coN x plan)) (ckM x x.init plan)) := by
  have hF := Lib.hid (frM_new w x 26 31)
  have HCK := Lib.hid (mcheck_any x x.ai A x.ci c x.init plan _ (hX.to hF.out.below hF.out.below.size) (hX.init.to hF.out.below hF.out.below.size) (hP.to hF.out.below hF.out.below.size))
  by_cases hn : (ckM x x.init plan).1 = 0
  case neg =>
    have H := Lib.hid (show coN x plan = 0 by unfold coN; rw [if_neg hn])
    rw [H.out]
    clear H hX hP
    generalize ckM x x.init plan = r at *
    have hne : (r.1 != 0) = true := by simpa using hn
    have hne2 : (r.1 == 0) = false := by simpa using hn
    clear hn
    go_enter Tryd.func17, Tryd.ntmps17
    go_wp2_with (go_at_call 23; (with_reducible refine HCK.out.mono ?_); rintro e w1 ⟨rfl, hb1⟩; have hF := Lib.hid ((hF.out.to hb1).to (al_b w1 (.cells #[.int .i64 r.1, .int .i64 r.2] 31))); obtain ⟨_, ⟨_, t0, t1, t2, t3⟩, ⟨_, k0, k1, f0, f1⟩⟩ := hF.out; clear hb1)
    go_region
    all_goals
      go_wp2
      refine post_with_fault (g := w.heap.size + 1) (x := .int .i64 r.1) (y := .int .i64 r.2) Tryd.results17 rfl (two1 (hF.out.two.set _ _)) ?_
      exact ⟨rfl, ((hF.out.below.setCell (by simp) _).setCell (by simp) _).drew⟩
  have H := Lib.hid (show coN x plan = mcost x.ops plan plan.length by unfold coN; rw [if_pos hn])
  rw [H.out]
  obtain ⟨hv, hm, hp, hpl, hz⟩ := ck_ok hn
  rw [hz] at HCK ⊢
  have HX0 := Lib.hid (fun (W : World) (h : Below w.heap.size w W) => hX.to h h.size)
  have HP0 := Lib.hid (fun (W : World) (h : Below w.heap.size w W) => hP.to h h.size)
  have HXW := Lib.hid hX
  have HPB := Lib.hid (fun k (hk : k < plan.length) => planB_at hp hk)
  have HCB := Lib.hid (mcost_le hv hp)
  have hmo := hv.m
  clear H hn hz hX hP hv hm hp
  go_enter Tryd.func17, Tryd.ntmps17
  go_wp2_with (go_at_call 23; (with_reducible refine HCK.out.mono ?_); rintro e w1 ⟨rfl, hb1⟩; have hF := Lib.hid ((hF.out.to hb1).to (al_b w1 (.cells #[.int .i64 0, .int .i64 0] 31))); obtain ⟨_, ⟨_, t0, t1, t2, t3⟩, ⟨_, k0, k1, f0, f1⟩⟩ := hF.out; clear hb1)
  go_loop [7, 21] (fun y i => ∃ k : Nat, k ≤ plan.length ∧ i = .int .i64 k ∧ y = .int .i64 (mcost x.ops plan k)) (fun _ i => plan.length - (intOf i).toNat)
  case atStart => exact ⟨0, by omega, rfl, rfl⟩
  case round =>
    obtain ⟨k, hk, rfl, rfl⟩ := hrel
    by_cases hlt : k < plan.length
    case neg =>
      obtain rfl : k = plan.length := by omega
      have hge : ¬ ((plan.length : Int) < plan.length) := by omega
      go_wp2
      refine post_with_fault (g := w.heap.size + 1) (x := .int .i64 0) (y := .int .i64 0) Tryd.results17 rfl (hF.out.two.set _ _) ?_
      exact ⟨rfl, (hF.out.below.setCell (by simp) _).setCell (by simp) _⟩
    obtain ⟨b, o, rfl, hbl, hc0⟩ := (HP0.out _ hF.out.below).nums.at_ hlt
    obtain ⟨g0, g1⟩ := HPB.out k hlt
    obtain ⟨m, hm⟩ := Int.eq_ofNat_of_zero_le g0
    have hst : mcost x.ops plan (k + 1) = mcost x.ops plan k + (mop x.ops m).cost := by simp only [mcost]; rw [hm]; rfl
    have hcb := HCB.out (k + 1) (by omega)
    rw [hst] at hcb
    have HS := Lib.hid hst
    rw [hm] at g1 hc0
    have hmo2 : m < x.ops.length := by omega
    clear hm g0 hst
    obtain ⟨b2, p, a1, a2, c1, c2, hao, hbl2, hq0, hpre0, hpost0⟩ := HXW.out.ops.at_ hmo2
    have HAO := Lib.hid hao
    rw [hao] at t3
    obtain ⟨q0, q1, q2⟩ := hq0.to hF.out.below hbl2
    have hwp : IntKind.i64.wrap (mcost x.ops plan k + (mop x.ops m).cost) = mcost x.ops plan k + (mop x.ops m).cost := IntWalk.i64_in _ (by omega)
    clear hq0 hao hpre0 hpost0 hcb
    go_wp2
    go_round
    case rel => exact ⟨k + 1, by omega, by go_num, by rw [HS.out]⟩
    case measure => simp [intOf]; omega
end Go.Proofs.YthlafcmabeiagaaDoor
