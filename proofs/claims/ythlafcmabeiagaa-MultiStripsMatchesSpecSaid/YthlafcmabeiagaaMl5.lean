/- The law MultiStripsHasTheSamePlans. -/
import Derived.Test.YthlafcmabeiagaaMpv
import Derived.Test.YthlafcmabeiagaaMcs
namespace Go.Proofs.Ythlafcmabeiagaa
open Go.RowKit
set_option linter.unusedSimpArgs false
set_option linter.unusedVariables false
set_option maxRecDepth 100000

/-- The law's task, the task of Strips in its box. -/
structure SM (w W : World) (x : MT) (y : Tsk) (g : Nat) : Prop where
  below : Below w.heap.size w W
  box : MBox W w.heap.size x
  q : Quad W g (.int .i64 y.n) (.slice y.ai y.init.length y.ci) (.slice y.ag y.goal.length y.cg) (.slice y.ao y.ops.length y.co)
  tk : TskIn W W.heap.size y
theorem SM.to {w W W' : World} {x : MT} {y : Tsk} {g : Nat} (h : SM w W x y g) (hb : Below W.heap.size W W') : SM w W' x y g :=
  ⟨h.below.trans (hb.mono h.below.size), h.box.to hb h.box.lt, h.q.to hb h.q.lt, h.tk.to hb hb.size⟩
theorem sm_new {w W : World} {x : MT} {y : Tsk} (hb : Below w.heap.size w W) (hx : MBox W w.heap.size x) (hy : TskIn W W.heap.size y) : SM w (W.alloc (.cells #[.int .i64 y.n, .slice y.ai y.init.length y.ci, .slice y.ag y.goal.length y.cg, .slice y.ao y.ops.length y.co] 50)) x y W.heap.size :=
  ⟨hb.alloc hb.size _, hx.to (al_b _ _) hx.lt, quad_new _ _ _ _ _ _, hy.to (al_b _ _) (al_b _ _).size⟩
set_option maxHeartbeats 8000000 in
theorem sp_bad (x : MT) (A : Option Addr) (c : Nat) (plan : List Int) (w : World) (hX : MTIn w w.heap.size x) (hr : (msF x).1 ≠ 0) :
    Calls Try.prog 5 #[.agg #[.slice x.az x.sizes.length x.cz, .slice x.ai x.init.length x.ci, .slice x.ag x.goal.length x.cg, .slice x.ao x.ops.length x.co], .slice A plan.length c] w fun e w' => e = .returned (.bool true) ∧ Below w.heap.size w w' := by
  have HB0 := Lib.hid (al_b w (.cells #[.slice x.az x.sizes.length x.cz, .slice x.ai x.init.length x.ci, .slice x.ag x.goal.length x.cg, .slice x.ao x.ops.length x.co] 26))
  have HBX := Lib.hid (mbox_new w x 26)
  have HST := Lib.hid (strips_any x _ (hX.to HB0.out HB0.out.size))
  have hne : ((msF x).1 == 0) = false := by simpa using hr
  have hne2 : ((msF x).1 != 0) = true := by simpa using hr
  have HR := Lib.hid hr
  clear hX hr
  go_enter Try.func5, Try.ntmps5
  go_wp2_with (first | (go_at_call 22; (with_reducible refine HST.out.mono ?_); rintro e wS ⟨y, rfl, hy, hb, hc, hzz⟩; obtain rfl := hzz HR.out; have hM := Lib.hid (sm_new (HB0.out.trans (hb.mono HB0.out.size)) (HBX.out.to hb HBX.out.lt) hy); have hT0 := Lib.hid (show Two ((wS.alloc (.cells #[.int .i64 tkZ.n, .slice tkZ.ai tkZ.init.length tkZ.ci, .slice tkZ.ag tkZ.goal.length tkZ.cg, .slice tkZ.ao tkZ.ops.length tkZ.co] 50)).alloc (.cells #[.int .i64 (msF x).1, .int .i64 (msF x).2] 28)) (wS.heap.size + 1) (.int .i64 (msF x).1) (.int .i64 (msF x).2) from by have := two_new (wS.alloc (.cells #[.int .i64 tkZ.n, .slice tkZ.ai tkZ.init.length tkZ.ci, .slice tkZ.ag tkZ.goal.length tkZ.cg, .slice tkZ.ao tkZ.ops.length tkZ.co] 50)) (.int .i64 (msF x).1) (.int .i64 (msF x).2) 28; rw [World.size_alloc] at this; exact this); have hM := Lib.hid (hM.out.to (al_b _ (.cells #[.int .i64 (msF x).1, .int .i64 (msF x).2] 28))); have HC := Lib.hid hc; clear hy hb hc hzz; obtain ⟨_, ⟨_, t0, t1, t2, t3⟩, ⟨_, s0, s1, s2, s3, _⟩, _⟩ := hM.out) | (go_at_call 8; (with_reducible refine (turns_any _).mono ?_); rintro e wT ⟨rfl, hb⟩; have hM := Lib.hid (hM.out.to hb); have hT0 := Lib.hid (two_to hT0.out hb); clear hb; obtain ⟨_, ⟨_, t0, t1, t2, t3⟩, ⟨_, s0, s1, s2, s3, _⟩, _⟩ := hM.out; obtain ⟨_, k0, k1, _, _⟩ := hT0.out))
  go_ret
  exact ⟨rfl, hM.out.below⟩
set_option maxHeartbeats 8000000 in
theorem sp_good (x : MT) (A : Option Addr) (c : Nat) (plan : List Int) (w : World) (hX : MTIn w w.heap.size x) (hP : Lst w w.heap.size A c plan) (hr : (msF x).1 = 0) :
    Calls Try.prog 5 #[.agg #[.slice x.az x.sizes.length x.cz, .slice x.ai x.init.length x.ci, .slice x.ag x.goal.length x.cg, .slice x.ao x.ops.length x.co], .slice A plan.length c] w fun e w' => e = .returned (.bool true) ∧ Below w.heap.size w w' := by
  have HB0 := Lib.hid (al_b w (.cells #[.slice x.az x.sizes.length x.cz, .slice x.ai x.init.length x.ci, .slice x.ag x.goal.length x.cg, .slice x.ao x.ops.length x.co] 26))
  have HBX := Lib.hid (mbox_new w x 26)
  have HMS := Lib.hid (fun (W : World) (h : Below w.heap.size w W) => msolve_any x A c plan W (hX.to h h.size) (hP.to h h.size))
  have HMC := Lib.hid (fun (W : World) (h : Below w.heap.size w W) => mcost_any x A c plan W (hX.to h h.size) (hP.to h h.size))
  have HP0 := Lib.hid (fun (W : World) (h : Below w.heap.size w W) => hP.to h h.size)
  obtain ⟨hm, h24, hz⟩ := ms_of hr
  have HV := Lib.hid (mf_val hm).1
  have HM := Lib.hid hm
  have H24 := Lib.hid h24
  have HR := Lib.hid hr
  have HST := Lib.hid ((strips_any x _ (hX.to HB0.out HB0.out.size)).mono fun e w' (q : StrP _ x e w') => show ∃ y : Tsk, e = .returned (.tuple #[.agg #[.int .i64 y.n, .slice y.ai y.init.length y.ci, .slice y.ag y.goal.length y.cg, .slice y.ao y.ops.length y.co], faultV (0, 0)]) ∧ TskIn w' w'.heap.size y ∧ Below _ _ w' ∧ IsSt x y by
    obtain ⟨y, he, hy, hb, hc, _⟩ := q
    rw [hz] at he
    obtain ⟨e1, e2, e3, e4⟩ := hc hr
    exact ⟨y, he, hy, hb, ⟨e1, e2, e3, e4⟩⟩)
  clear hX hP hm h24 hr hz
  go_enter Try.func5, Try.ntmps5
  go_wp2_with (first | (go_at_call 22; (with_reducible refine HST.out.mono ?_); rintro e wS ⟨y, rfl, hy, hb, his⟩; have hM := Lib.hid (sm_new (HB0.out.trans (hb.mono HB0.out.size)) (HBX.out.to hb HBX.out.lt) hy); have hT0 := Lib.hid (show Two ((wS.alloc (.cells #[.int .i64 y.n, .slice y.ai y.init.length y.ci, .slice y.ag y.goal.length y.cg, .slice y.ao y.ops.length y.co] 50)).alloc (.cells #[.int .i64 0, .int .i64 0] 28)) (wS.heap.size + 1) (.int .i64 0) (.int .i64 0) from by have := two_new (wS.alloc (.cells #[.int .i64 y.n, .slice y.ai y.init.length y.ci, .slice y.ag y.goal.length y.cg, .slice y.ao y.ops.length y.co] 50)) (.int .i64 0) (.int .i64 0) 28; rw [World.size_alloc] at this; exact this); have hM := Lib.hid (hM.out.to (al_b _ (.cells #[.int .i64 0, .int .i64 0] 28))); have HSS := Lib.hid (fun (W : World) (h : Below w.heap.size w W) (h2 : TskIn W W.heap.size y) => ssolves_any y A c plan W h2 (HP0.out W h)); have HSC := Lib.hid (fun (W : World) (h : Below w.heap.size w W) (h2 : TskIn W W.heap.size y) => cost_any y A c plan W h2 (HP0.out W h)); have HSV := Lib.hid (fun (W : World) (h2 : TskIn W W.heap.size y) => validate_any y W h2); rw [st_sv HV.out HM.out H24.out his, st_pl HV.out HM.out H24.out his] at HSS; rw [st_co HV.out HM.out H24.out his, st_pl HV.out HM.out H24.out his] at HSC; rw [strips_valid HV.out H24.out his.n his.init his.goal his.ops] at HSV; clear hy hb his; obtain ⟨_, ⟨_, t0, t1, t2, t3⟩, ⟨_, s0, s1, s2, s3, _⟩, _⟩ := hM.out) | (go_at_call 8; (with_reducible refine (turns_any _).mono ?_); rintro e wT ⟨rfl, hb⟩; have hM := Lib.hid (hM.out.to hb); have hT0 := Lib.hid (two_to hT0.out hb); clear hb; obtain ⟨_, ⟨_, t0, t1, t2, t3⟩, ⟨_, s0, s1, s2, s3, _⟩, _⟩ := hM.out; obtain ⟨_, k0, k1, _, _⟩ := hT0.out) | (go_at_call 19; (with_reducible refine (HMS.out _ hM.out.below).mono ?_); rintro e wA ⟨rfl, hb⟩; have hTA := Lib.hid (two_new wA (.int .i64 (ckM x x.init plan).1) (.int .i64 (ckM x x.init plan).2) 28); have hM := Lib.hid ((hM.out.to hb).to (al_b wA (.cells #[.int .i64 (ckM x x.init plan).1, .int .i64 (ckM x x.init plan).2] 28))); clear hb; obtain ⟨_, ⟨_, t0, t1, t2, t3⟩, ⟨_, s0, s1, s2, s3, _⟩, _⟩ := hM.out) | (go_at_call 23; (with_reducible refine (HSS.out _ hM.out.below hM.out.tk).mono ?_); rintro e wB ⟨rfl, hb⟩; have hTA := Lib.hid (two_to (two_to hTA.out hb) (al_b wB (.cells #[.int .i64 (ckM x x.init plan).1, .int .i64 (ckM x x.init plan).2] 28))); have hTB := Lib.hid (two_new wB (.int .i64 (ckM x x.init plan).1) (.int .i64 (ckM x x.init plan).2) 28); have hM := Lib.hid ((hM.out.to hb).to (al_b wB (.cells #[.int .i64 (ckM x x.init plan).1, .int .i64 (ckM x x.init plan).2] 28))); clear hb; obtain ⟨_, ⟨_, t0, t1, t2, t3⟩, ⟨_, s0, s1, s2, s3, _⟩, _⟩ := hM.out) | (go_at_call 20; (with_reducible refine (HMC.out _ hM.out.below).mono ?_); rintro e wC ⟨rfl, hb⟩; have hTA := Lib.hid (two_to (two_to hTA.out hb) (al_b wC (.cells #[.int .i64 (ckM x x.init plan).1, .int .i64 (ckM x x.init plan).2] 28))); have hTB := Lib.hid (two_to (two_to hTB.out hb) (al_b wC (.cells #[.int .i64 (ckM x x.init plan).1, .int .i64 (ckM x x.init plan).2] 28))); have hTC := Lib.hid (two_new wC (.int .i64 (ckM x x.init plan).1) (.int .i64 (ckM x x.init plan).2) 28); have hM := Lib.hid ((hM.out.to hb).to (al_b wC (.cells #[.int .i64 (ckM x x.init plan).1, .int .i64 (ckM x x.init plan).2] 28))); clear hb; obtain ⟨_, ⟨_, t0, t1, t2, t3⟩, ⟨_, s0, s1, s2, s3, _⟩, _⟩ := hM.out) | (go_at_call 24; (with_reducible refine (HSC.out _ hM.out.below hM.out.tk).mono ?_); rintro e wD ⟨rfl, hb⟩; have hTA := Lib.hid (two_to (two_to hTA.out hb) (al_b wD (.cells #[.int .i64 (ckM x x.init plan).1, .int .i64 (ckM x x.init plan).2] 28))); have hTB := Lib.hid (two_to (two_to hTB.out hb) (al_b wD (.cells #[.int .i64 (ckM x x.init plan).1, .int .i64 (ckM x x.init plan).2] 28))); have hTC := Lib.hid (two_to (two_to hTC.out hb) (al_b wD (.cells #[.int .i64 (ckM x x.init plan).1, .int .i64 (ckM x x.init plan).2] 28))); have hTD := Lib.hid (two_new wD (.int .i64 (ckM x x.init plan).1) (.int .i64 (ckM x x.init plan).2) 28); have hM := Lib.hid ((hM.out.to hb).to (al_b wD (.cells #[.int .i64 (ckM x x.init plan).1, .int .i64 (ckM x x.init plan).2] 28))); clear hb; obtain ⟨_, ⟨_, t0, t1, t2, t3⟩, ⟨_, s0, s1, s2, s3, _⟩, _⟩ := hM.out) | (go_at_call 25; (with_reducible refine (HSV.out _ hM.out.tk).mono ?_); rintro e wV ⟨rfl, hb⟩; have hTA := Lib.hid (two_to hTA.out hb); have hTB := Lib.hid (two_to hTB.out hb); have hTC := Lib.hid (two_to hTC.out hb); have hTD := Lib.hid (two_to hTD.out hb); have hM := Lib.hid (hM.out.to hb); clear hb; obtain ⟨_, a0, a1, _, _⟩ := hTA.out; obtain ⟨_, b0, b1, _, _⟩ := hTB.out; obtain ⟨_, d0, d1, _, _⟩ := hTC.out; obtain ⟨_, e0, e1, _, _⟩ := hTD.out))
  go_ret
  exact ⟨rfl, hM.out.below⟩
theorem sps_any (x : MT) (A : Option Addr) (c : Nat) (plan : List Int) (w : World) (hX : MTIn w w.heap.size x) (hP : Lst w w.heap.size A c plan) :
    Calls Try.prog 5 #[.agg #[.slice x.az x.sizes.length x.cz, .slice x.ai x.init.length x.ci, .slice x.ag x.goal.length x.cg, .slice x.ao x.ops.length x.co], .slice A plan.length c] w fun e w' => e = .returned (.bool true) ∧ Below w.heap.size w w' := by
  by_cases h : (msF x).1 = 0
  · exact sp_good x A c plan w hX hP h
  · exact sp_bad x A c plan w hX h
end Go.Proofs.Ythlafcmabeiagaa
