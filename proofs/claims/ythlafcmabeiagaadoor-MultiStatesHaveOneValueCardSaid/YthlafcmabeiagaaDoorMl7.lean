/- The law MultiStatesHaveOneValue. -/
import Derived.Test.YthlafcmabeiagaaDoorMpv
import Derived.Test.YthlafcmabeiagaaDoorMcs
import Derived.Test.YthlafcmabeiagaaDoorKpl
namespace Go.Proofs.YthlafcmabeiagaaDoor
open Go.RowKit
set_option linter.unusedSimpArgs false
set_option linter.unusedVariables false
set_option maxRecDepth 100000

theorem runTo_le {x : Tsk} {n : Nat} {s plan t : List Int} {m : Nat} (h : runTo x n s plan m = some t) {k : Nat} (hk : k ≤ m) : ∃ u, runTo x n s plan k = some u := by
  cases h0 : runTo x n s plan k with
  | none => rw [runTo_none h0 _ hk] at h; cases h
  | some u => exact ⟨u, rfl⟩
theorem seqN_at {x : Tsk} {n : Nat} {s plan : List Int} : ∀ (f i : Nat) (j : Nat) (t : List Int), j < f → runTo x n s plan (i + j) = some t → rw_ ((seqN x n s plan f i).map (·.2)) j = t
  | 0, _, _, _, h, _ => by omega
  | f + 1, i, j, t, h, hr => by
    cases h0 : runTo x n s plan i with
    | none => rw [runTo_none h0 _ (by omega)] at hr; cases hr
    | some u =>
      rw [seqN_some h0]
      match j with
      | 0 => rw [Nat.add_zero, h0] at hr; cases hr; rfl
      | j + 1 =>
        have := seqN_at (x := x) (s := s) (plan := plan) f (i + 1) j t (by omega) (by rw [show i + 1 + j = i + (j + 1) by omega]; exact hr)
        rw [← this]
        simp [rw_, List.getD]
theorem plyF_zero {x : Tsk} {s plan : List Int} (h : (plyF x s plan).1 = 0) : plyF x s plan = (0, 0) ∧ (ckF x s plan).1 = 0 ∧ ∃ t, runTo x x.n.toNat s plan plan.length = some t := by
  unfold plyF at *
  by_cases hc : (ckF x s plan).1 = 0
  · rw [if_neg (by simpa using hc)] at h ⊢
    cases hr : runTo x x.n.toNat s plan plan.length with
    | none => rw [hr] at h; simp at h
    | some t => exact ⟨by simp, hc, t, rfl⟩
  · rw [if_pos hc] at h
    exact absurd h hc
theorem plyL_bad {x : Tsk} {s plan : List Int} (h : (plyF x s plan).1 ≠ 0) : plyL x s plan = [] := by
  unfold plyL
  rw [if_neg h]
theorem plyL_len {x : Tsk} {s plan : List Int} (h : (plyF x s plan).1 = 0) : (plyL x s plan).length = plan.length + 1 := by
  obtain ⟨_, _, t, ht⟩ := plyF_zero h
  unfold plyL
  rw [if_pos h, List.length_map]
  exact seqN_full (t := t) plan.length 0 (by simpa using ht)
theorem plyL_at {x : Tsk} {s plan : List Int} (h : (plyF x s plan).1 = 0) {k : Nat} (hk : k ≤ plan.length) : runTo x x.n.toNat s plan k = some (rw_ (plyL x s plan) k) := by
  obtain ⟨_, _, t, ht⟩ := plyF_zero h
  obtain ⟨u, hu⟩ := runTo_le ht hk
  unfold plyL
  rw [if_pos h, hu]
  unfold seqL
  rw [seqN_at (x := x) (s := s) (plan := plan) (plan.length + 1) 0 k u (by omega) (by simpa using hu)]
theorem wpAnyF_two {P : Program} {ops : Array Oper} {Q : Exit → Act → World → Prop} {md : Region.Mode} {S : World → Prop} {m i j : Nat} {o o' : Oper} {f : Nat} {listed : Array Bool} {a : Act} {w : World} (hr : Region.ready md ops listed = [i, j]) (ho : ops[i]? = some o) (ho' : ops[j]? = some o')
    (h : ∀ K' : Act → World → Prop, Shut (∀ a w, S w → (S w → wpAnyF P md ops Q S m f (listed.setIfInBounds i true) a w) → K' a w) → if Region.wanted o (yielded ops a.tmps) = true then Oper.wp P o a w K' Q else K' (a.put o.dst undef) w)
    (h' : ∀ K' : Act → World → Prop, Shut (∀ a w, S w → (S w → wpAnyF P md ops Q S m f (listed.setIfInBounds j true) a w) → K' a w) → if Region.wanted o' (yielded ops a.tmps) = true then Oper.wp P o' a w K' Q else K' (a.put o'.dst undef) w) :
    wpAnyF P md ops Q S m (f + 1) listed a w := by
  refine ⟨fun h => (by rw [hr] at h; cases h), fun k hk => ?_⟩
  rw [hr] at hk
  rcases List.mem_cons.1 hk with rfl | hk
  · exact wpOp_step ho (fun K' hK => h K' (fun a w hS hW => hK a w ⟨fun _ => hS, hW hS⟩))
  · obtain rfl := List.mem_singleton.1 hk
    exact wpOp_step ho' (fun K' hK => h' K' (fun a w hS hW => hK a w ⟨fun _ => hS, hW hS⟩))
theorem bel_up2 {U V V' : World} (h : Below U.heap.size U V) (h2 : Below V.heap.size V V') : Below U.heap.size U V' := h.trans (h2.mono h.size)
theorem ply_st {x : MT} {y : Tsk} {plan : List Int} (hv : MVal x) (h : IsSt x y) (h0 : (plyF y y.init plan).1 = 0) : planB x.ops.length plan = true ∧ plan.length ≤ 60 ∧
    ∀ k, k ≤ plan.length → ∃ t, mrun x.ops plan x.init k = some t ∧ msB x.sizes t = true ∧ rw_ (plyL y y.init plan) k = enc x.sizes t := by
  obtain ⟨_, hc, _⟩ := plyF_zero h0
  obtain ⟨_, _, hl, hp⟩ := ck_val hc
  rw [st_ops h] at hp
  refine ⟨hp, hl, fun k hk => ?_⟩
  obtain ⟨h1, h2⟩ := st_run hv h hp k hk
  rw [plyL_at h0 hk] at h1
  cases hm : mrun x.ops plan x.init k with
  | none => rw [hm] at h1; cases h1
  | some t =>
    rw [hm] at h1
    simp only [Option.map_some, Option.some.injEq] at h1
    exact ⟨t, rfl, h2 t hm, h1⟩
theorem apF_st {x : MT} {plan t u : List Int} {k : Nat} (hm : (mfF x).1 = 0) (hp : planB x.ops.length plan = true) (hk : k < plan.length) (ht : mrun x.ops plan x.init k = some t) (hu : mrun x.ops plan x.init (k + 1) = some u) (hs : msB x.sizes t = true) :
    apF x t (ix plan k) = (0, 0) ∧ apR x t (ix plan k) = u := by
  have hpk := planB_at hp hk
  have hc : ckM x t [ix plan k] = (0, 0) := by
    unfold ckM
    rw [if_neg (by simp [hm]), if_neg (by simp [hs])]
    unfold spF
    rw [if_neg (by simp), if_pos]
    exact planB_good fun j hj => by
      obtain rfl : j = 0 := by simp at hj; omega
      simp [stB, ix]
      unfold ix at hpk
      exact hpk
  simp only [mrun, ht] at hu
  have hh : holdB t (mop x.ops (ix plan k).toNat).pre = true := by
    cases h : holdB t (mop x.ops (ix plan k).toNat).pre
    · rw [h] at hu; cases hu
    · rfl
  rw [if_pos hh] at hu
  cases hu
  have e1 : apF x t (ix plan k) = (0, 0) := by unfold apF; rw [hc, if_neg (by simp), if_pos hh]
  exact ⟨e1, by unfold apR; rw [e1]; rfl⟩
/-- The law's task, the task of Strips in its box. -/
structure SM (w W : World) (x : MT) (y : Tsk) (g : Nat) : Prop where
  below : Below w.heap.size w W
  box : MBox W w.heap.size x
  q : Quad W g (.int .i64 y.n) (.slice y.ai y.init.length y.ci) (.slice y.ag y.goal.length y.cg) (.slice y.ao y.ops.length y.co)
  tk : TskIn W W.heap.size y
theorem SM.to {w W W' : World} {x : MT} {y : Tsk} {g : Nat} (h : SM w W x y g) (hb : Below W.heap.size W W') : SM w W' x y g :=
  ⟨h.below.trans (hb.mono h.below.size), h.box.to hb h.box.lt, h.q.to hb h.q.lt, h.tk.to hb hb.size⟩
theorem sm_new {w W : World} {x : MT} {y : Tsk} (hb : Below w.heap.size w W) (hx : MBox W w.heap.size x) (hy : TskIn W W.heap.size y) : SM w (W.alloc (.cells #[.int .i64 y.n, .slice y.ai y.init.length y.ci, .slice y.ag y.goal.length y.cg, .slice y.ao y.ops.length y.co] 29)) x y W.heap.size :=
  ⟨hb.alloc hb.size _, hx.to (al_b _ _) hx.lt, quad_new _ _ _ _ _ _, hy.to (al_b _ _) (al_b _ _).size⟩
set_option maxHeartbeats 8000000 in
theorem ov_bad (x : MT) (A : Option Addr) (c : Nat) (plan : List Int) (w : World) (hX : MTIn w w.heap.size x) (hr : (msF x).1 ≠ 0) :
    Calls Tryd.prog 3 #[.agg #[.slice x.az x.sizes.length x.cz, .slice x.ai x.init.length x.ci, .slice x.ag x.goal.length x.cg, .slice x.ao x.ops.length x.co], .slice A plan.length c] w fun e w' => e = .returned (.bool true) ∧ Below w.heap.size w w' := by
  have HB0 := Lib.hid (al_b w (.cells #[.slice x.az x.sizes.length x.cz, .slice x.ai x.init.length x.ci, .slice x.ag x.goal.length x.cg, .slice x.ao x.ops.length x.co] 26))
  have HBX := Lib.hid (mbox_new w x 26)
  have HST := Lib.hid (strips_any x _ (hX.to HB0.out HB0.out.size))
  have hne : ((msF x).1 == 0) = false := by simpa using hr
  have hne2 : ((msF x).1 != 0) = true := by simpa using hr
  have HR := Lib.hid hr
  clear hX hr
  go_enter Tryd.func3, Tryd.ntmps3
  go_wp2_with (first | (go_at_call 4; (with_reducible refine HST.out.mono ?_); rintro e wS ⟨y, rfl, hy, hb, hc, hzz⟩; obtain rfl := hzz HR.out; have hM := Lib.hid (sm_new (HB0.out.trans (hb.mono HB0.out.size)) (HBX.out.to hb HBX.out.lt) hy); have hT0 := Lib.hid (show Two ((wS.alloc (.cells #[.int .i64 tkZ.n, .slice tkZ.ai tkZ.init.length tkZ.ci, .slice tkZ.ag tkZ.goal.length tkZ.cg, .slice tkZ.ao tkZ.ops.length tkZ.co] 29)).alloc (.cells #[.int .i64 (msF x).1, .int .i64 (msF x).2] 31)) (wS.heap.size + 1) (.int .i64 (msF x).1) (.int .i64 (msF x).2) from by have := two_new (wS.alloc (.cells #[.int .i64 tkZ.n, .slice tkZ.ai tkZ.init.length tkZ.ci, .slice tkZ.ag tkZ.goal.length tkZ.cg, .slice tkZ.ao tkZ.ops.length tkZ.co] 29)) (.int .i64 (msF x).1) (.int .i64 (msF x).2) 31; rw [World.size_alloc] at this; exact this); have hM := Lib.hid (hM.out.to (al_b _ (.cells #[.int .i64 (msF x).1, .int .i64 (msF x).2] 31))); have HC := Lib.hid hc; clear hy hb hc hzz; obtain ⟨_, ⟨_, t0, t1, t2, t3⟩, ⟨_, s0, s1, s2, s3, _⟩, _⟩ := hM.out) | (go_at_call 5; (with_reducible refine (turns_any _).mono ?_); rintro e wT ⟨rfl, hb⟩; have hM := Lib.hid (hM.out.to hb); have hT0 := Lib.hid (two_to hT0.out hb); clear hb; obtain ⟨_, ⟨_, t0, t1, t2, t3⟩, ⟨_, s0, s1, s2, s3, _⟩, _⟩ := hM.out; obtain ⟨_, k0, k1, _, _⟩ := hT0.out))
  go_ret
  exact ⟨rfl, hM.out.below⟩
set_option maxHeartbeats 8000000 in
theorem ov_good (x : MT) (A : Option Addr) (c : Nat) (plan : List Int) (w : World) (hX : MTIn w w.heap.size x) (hP : Lst w w.heap.size A c plan) (hT : TabIn w) (hr : (msF x).1 = 0) :
    Calls Tryd.prog 3 #[.agg #[.slice x.az x.sizes.length x.cz, .slice x.ai x.init.length x.ci, .slice x.ag x.goal.length x.cg, .slice x.ao x.ops.length x.co], .slice A plan.length c] w fun e w' => e = .returned (.bool true) ∧ Below w.heap.size w w' := by
  have HB0 := Lib.hid (al_b w (.cells #[.slice x.az x.sizes.length x.cz, .slice x.ai x.init.length x.ci, .slice x.ag x.goal.length x.cg, .slice x.ao x.ops.length x.co] 26))
  have HBX := Lib.hid (mbox_new w x 26)
  have HP0 := Lib.hid (fun (W : World) (h : Below w.heap.size w W) => hP.to h h.size)
  have HX0 := Lib.hid (fun (W : World) (h : Below w.heap.size w W) => hX.to h h.size)
  obtain ⟨hm, h24, hz⟩ := ms_of hr
  have HV := Lib.hid (mf_val hm).1
  have HM := Lib.hid hm
  have HST := Lib.hid ((strips_any x _ (hX.to HB0.out HB0.out.size)).mono fun e w' (q : StrP _ x e w') => show ∃ y : Tsk, e = .returned (.tuple #[.agg #[.int .i64 y.n, .slice y.ai y.init.length y.ci, .slice y.ag y.goal.length y.cg, .slice y.ao y.ops.length y.co], faultV (0, 0)]) ∧ TskIn w' w'.heap.size y ∧ Below _ _ w' ∧ IsSt x y by
    obtain ⟨y, he, hy, hb, hc, _⟩ := q
    rw [hz] at he
    obtain ⟨e1, e2, e3, e4⟩ := hc hr
    exact ⟨y, he, hy, hb, ⟨e1, e2, e3, e4⟩⟩)
  have HSZ := Lib.hid (fun (W : World) (h : Below w.heap.size w W) v (hv : v < x.sizes.length) b o (e : x.az = some ⟨b, o, none⟩) => show W.cell? ⟨b, o + v, none⟩ = some (.int .i64 (ix x.sizes v)) by
    obtain ⟨b', o', e', _, hc⟩ := (hX.to h h.size).sizes.nums.at_ hv
    rw [e] at e'; cases e'; exact hc)
  have HPL := Lib.hid (fun (y : Tsk) (W : World) (h : Below w.heap.size w W) (h2 : TskIn W W.heap.size y) => play_any y y.ai A y.ci c y.init plan W h2 h2.init (hP.to h h.size) (hT.to h (Nat.le_refl _)))
  have hpl := hP.len
  unfold maxLen at hpl
  clear hX hP hm h24 hr hz hT
  go_enter Tryd.func3, Tryd.ntmps3
  go_wp2_with (first | (go_at_call 4; (with_reducible refine HST.out.mono ?_); rintro e wS ⟨y, rfl, hy, hb, his⟩; have hM := Lib.hid (sm_new (HB0.out.trans (hb.mono HB0.out.size)) (HBX.out.to hb HBX.out.lt) hy); have hT0 := Lib.hid (show Two ((wS.alloc (.cells #[.int .i64 y.n, .slice y.ai y.init.length y.ci, .slice y.ag y.goal.length y.cg, .slice y.ao y.ops.length y.co] 29)).alloc (.cells #[.int .i64 0, .int .i64 0] 31)) (wS.heap.size + 1) (.int .i64 0) (.int .i64 0) from by have := two_new (wS.alloc (.cells #[.int .i64 y.n, .slice y.ai y.init.length y.ci, .slice y.ag y.goal.length y.cg, .slice y.ao y.ops.length y.co] 29)) (.int .i64 0) (.int .i64 0) 31; rw [World.size_alloc] at this; exact this); have hM := Lib.hid (hM.out.to (al_b _ (.cells #[.int .i64 0, .int .i64 0] 31))); have HIS := Lib.hid his; clear hy hb his; obtain ⟨_, ⟨_, t0, t1, t2, t3⟩, ⟨_, s0, s1, s2, s3, _⟩, _⟩ := hM.out) | (go_at_call 5; (with_reducible refine (turns_any _).mono ?_); rintro e wT ⟨rfl, hb⟩; have hM := Lib.hid (hM.out.to hb); have hT0 := Lib.hid (two_to hT0.out hb); clear hb; obtain ⟨_, ⟨_, t0, t1, t2, t3⟩, ⟨_, s0, s1, s2, s3, _⟩, _⟩ := hM.out; obtain ⟨_, k0, k1, _, _⟩ := hT0.out))
  have HPL := Lib.hid (HPL.out y)
  by_cases h0 : (plyF y y.init plan).1 = 0
  case neg =>
    have hne : ((plyF y y.init plan).1 == 0) = false := by simpa using h0
    have hne2 : ((plyF y y.init plan).1 != 0) = true := by simpa using h0
    have hnl : plyL y y.init plan = [] := plyL_bad h0
    rw [hnl] at HPL
    clear h0
    (with_reducible refine (HPL.out _ hM.out.below hM.out.tk).mono ?_); rintro e wP ⟨vP, rfl, hfr, hb⟩; obtain ⟨aP, cP, rfl, hrw, _, _⟩ := hfr.slice; have hTP := Lib.hid (two_new wP (.int .i64 (plyF y y.init plan).1) (.int .i64 (plyF y y.init plan).2) 31); have hM := Lib.hid ((hM.out.to hb).to (al_b wP (.cells #[.int .i64 (plyF y y.init plan).1, .int .i64 (plyF y y.init plan).2] 31))); have HRW := Lib.hid (fun (V : World) (h : Below wP.heap.size wP V) => hrw.to h h.size); have hBP := Lib.hid (al_b wP (.cells #[.int .i64 (plyF y y.init plan).1, .int .i64 (plyF y y.init plan).2] 31)); clear hb hfr hrw; obtain ⟨_, ⟨_, t0, t1, t2, t3⟩, ⟨_, s0, s1, s2, s3, _⟩, _⟩ := hM.out; obtain ⟨_, k0, k1, _, _⟩ := hTP.out
    go_wp2
    go_ret
    exact ⟨rfl, hM.out.below⟩
  case pos =>
    obtain ⟨hpb, _, hst⟩ := ply_st HV.out HIS.out h0
    have hz0 := (plyF_zero h0).1
    have hln := plyL_len h0
    rw [hz0] at HPL
    have HLS := Lib.hid hst
    have HLN := Lib.hid hln
    have HPB := Lib.hid hpb
    generalize plyL y y.init plan = ls at *
    have hl0 : ((ls.length : Int) == 0) = false := by rw [hln]; simp; omega
    clear h0 hz0 hst hln hpb
    (with_reducible refine (HPL.out _ hM.out.below hM.out.tk).mono ?_); rintro e wP ⟨vP, rfl, hfr, hb⟩; obtain ⟨aP, cP, rfl, hrw, _, _⟩ := hfr.slice; have hTP := Lib.hid (two_new wP (.int .i64 0) (.int .i64 0) 31); have hM := Lib.hid ((hM.out.to hb).to (al_b wP (.cells #[.int .i64 0, .int .i64 0] 31))); have HRW := Lib.hid (fun (V : World) (h : Below wP.heap.size wP V) => hrw.to h h.size); have hBP := Lib.hid (al_b wP (.cells #[.int .i64 0, .int .i64 0] 31)); clear hb hfr hrw; obtain ⟨_, ⟨_, t0, t1, t2, t3⟩, ⟨_, s0, s1, s2, s3, _⟩, _⟩ := hM.out; obtain ⟨_, k0, k1, _, _⟩ := hTP.out
    go_wp2
    clear t0 t1 t2 t3 s0 s1 s2 s3 k0 k1
    have HST0 := Lib.hid (show StM (wP.alloc (.cells #[.int .i64 0, .int .i64 0] 31)) (.slice x.ai x.init.length x.ci) x.init from ⟨x.ai, x.ci, rfl, (HX0.out _ hM.out.below).init, (HX0.out _ hM.out.below).nil⟩)
    go_loopw [9, 10] (fun s i wr => ∃ (k : Nat) (t : List Int), k ≤ plan.length ∧ i = .int .i64 k ∧ mrun x.ops plan x.init k = some t ∧ msB x.sizes t = true ∧ StM wr s t ∧ SM w wr x y wS.heap.size ∧ Below wP.heap.size wP wr) (fun _ i _ => plan.length - (intOf i).toNat)
    case atStart => exact ⟨0, x.init, by omega, rfl, rfl, HV.out.init, HST0.out, hM.out, hBP.out⟩
    case round =>
      clear hM HST0 hBP
      obtain ⟨k, t, hk, rfl, hr, hms, hs, hm, hb⟩ := hrel
      have HR := Lib.hid hr
      have HMS := Lib.hid hms
      have hM := Lib.hid hm
      have hBP := Lib.hid hb
      obtain ⟨a, ca, rfl, htl, htn⟩ := hs.ex
      have HTL := Lib.hid (fun (V : World) (h : Below wr.heap.size wr V) => htl.to h h.size)
      have HTN := Lib.hid htn
      clear hr hms hm hb hs htl htn
      obtain ⟨_, ⟨_, t0, t1, t2, t3⟩, ⟨_, s0, s1, s2, s3, _⟩, _⟩ := hM.out
      by_cases hlt : k < plan.length
      case pos =>
        obtain ⟨u, hu, hus, _⟩ := HLS.out (k + 1) (by omega)
        obtain ⟨e1, e2⟩ := apF_st HM.out HPB.out hlt HR.out hu HMS.out
        have HAY := Lib.hid (fun (V : World) (h : Below wr.heap.size wr V) => mapply_any x a ca t (ix plan k) V (HX0.out V (hM.out.below.trans (h.mono hM.out.below.size))) (HTL.out V h) HTN.out)
        rw [e1, e2] at HAY
        have HU := Lib.hid (show mrun x.ops plan x.init (k + 1) = some u ∧ msB x.sizes u = true from ⟨hu, hus⟩)
        obtain ⟨bp, op, rfl, hbp, hcp⟩ := (HP0.out _ hM.out.below).nums.at_ hlt
        have HSO := Lib.hid (fun (V : World) (h : Below wr.heap.size wr V) => show V.cell? ⟨w.heap.size, 0, none⟩ = some (.slice x.az x.sizes.length x.cz) ∧ V.cell? ⟨w.heap.size, 1, none⟩ = some (.slice x.ai x.init.length x.ci) ∧ V.cell? ⟨w.heap.size, 2, none⟩ = some (.slice x.ag x.goal.length x.cg) ∧ V.cell? ⟨w.heap.size, 3, none⟩ = some (.slice x.ao x.ops.length x.co) ∧ V.cell? ⟨bp, op + k, none⟩ = some (.int .i64 (ix plan k)) from ⟨(hM.out.to h).box.c0, (hM.out.to h).box.c1, (hM.out.to h).box.c2, (hM.out.to h).box.c3, (h.cell (p := ⟨bp, op + k, none⟩) hbp).trans hcp⟩)
        clear e1 e2 hu hus
        go_wp2
        refine wp_region_F (S := (fun V => V.cell? ⟨w.heap.size, 0, none⟩ = some (.slice x.az x.sizes.length x.cz) ∧ V.cell? ⟨w.heap.size, 1, none⟩ = some (.slice x.ai x.init.length x.ci) ∧ V.cell? ⟨w.heap.size, 2, none⟩ = some (.slice x.ag x.goal.length x.cg) ∧ V.cell? ⟨w.heap.size, 3, none⟩ = some (.slice x.ao x.ops.length x.co) ∧ V.cell? ⟨bp, op + k, none⟩ = some (.int .i64 (ix plan k)))) 12 (by kernel_rfl) ?_ (fun hHeld => ?_)
        · exact HSO.out _ (Below.refl _ _).drew
        refine wpAnyF_take (i := 0) (oi := _) (v := ?v301) rfl (by kernel_rfl) (by kernel_rfl) (by kernel_rfl) (by kernel_rfl) (by kernel_rfl) (by kernel_rfl) (by kernel_rfl) (by kernel_rfl) (fun _ _ _ h => h) (Or.inl ⟨by rfl, ?hy301⟩) (by assumption) ?rest301
        case hy301 => (intro w hSw; (try dsimp only at hSw); go_simp; try (with_reducible rfl))
        try simp only [Act.put, List.setIfInBounds_toArray, List.set_cons_zero, List.set_cons_succ]
        refine wpAnyF_take (i := 1) (oi := _) (v := ?v302) rfl (by kernel_rfl) (by kernel_rfl) (by kernel_rfl) (by kernel_rfl) (by kernel_rfl) (by kernel_rfl) (by kernel_rfl) (by kernel_rfl) (fun _ _ _ h => h) (Or.inl ⟨by rfl, ?hy302⟩) (by assumption) ?rest302
        case hy302 => (intro w hSw; (try dsimp only at hSw); go_simp; try (with_reducible rfl))
        try simp only [Act.put, List.setIfInBounds_toArray, List.set_cons_zero, List.set_cons_succ]
        refine wpAnyF_take (i := 2) (oi := _) (v := ?v303) rfl (by kernel_rfl) (by kernel_rfl) (by kernel_rfl) (by kernel_rfl) (by kernel_rfl) (by kernel_rfl) (by kernel_rfl) (by kernel_rfl) (fun _ _ _ h => h) (Or.inl ⟨by rfl, ?hy303⟩) (by assumption) ?rest303
        case hy303 => (intro w hSw; (try dsimp only at hSw); go_simp; try (with_reducible rfl))
        try simp only [Act.put, List.setIfInBounds_toArray, List.set_cons_zero, List.set_cons_succ]
        refine wpAnyF_take (i := 3) (oi := _) (v := ?v304) rfl (by kernel_rfl) (by kernel_rfl) (by kernel_rfl) (by kernel_rfl) (by kernel_rfl) (by kernel_rfl) (by kernel_rfl) (by kernel_rfl) (fun _ _ _ h => h) (Or.inl ⟨by rfl, ?hy304⟩) (by assumption) ?rest304
        case hy304 => (intro w hSw; (try dsimp only at hSw); go_simp; try (with_reducible rfl))
        try simp only [Act.put, List.setIfInBounds_toArray, List.set_cons_zero, List.set_cons_succ]
        refine wpAnyF_take (i := 4) (oi := _) (v := ?v305) rfl (by kernel_rfl) (by kernel_rfl) (by kernel_rfl) (by kernel_rfl) (by kernel_rfl) (by kernel_rfl) (by kernel_rfl) (by kernel_rfl) (fun _ _ _ h => h) (Or.inl ⟨by rfl, ?hy305⟩) (by assumption) ?rest305
        case hy305 => (intro w hSw; (try dsimp only at hSw); go_simp; try (with_reducible rfl))
        try simp only [Act.put, List.setIfInBounds_toArray, List.set_cons_zero, List.set_cons_succ]
        refine wpAnyF_take (i := 5) (oi := _) (v := ?v306) rfl (by kernel_rfl) (by kernel_rfl) (by kernel_rfl) (by kernel_rfl) (by kernel_rfl) (by kernel_rfl) (by kernel_rfl) (by kernel_rfl) (fun _ _ _ h => h) (Or.inl ⟨by rfl, ?hy306⟩) (by assumption) ?rest306
        case hy306 => (intro w hSw; (try dsimp only at hSw); go_simp; try (with_reducible rfl))
        try simp only [Act.put, List.setIfInBounds_toArray, List.set_cons_zero, List.set_cons_succ]
        refine wpAnyF_two (i := 6) (j := 10) (o := _) (o' := _) (by kernel_rfl) rfl rfl (fun KA hKA => ?_) (fun KB hKB => ?_)
        · skip
          go_simp
          go_at_call 7; (with_reducible refine (HAY.out _ (Below.refl _ _).drew).mono ?_); rintro e wA ⟨vA, rfl, hoA, hbA⟩; have HOA := Lib.hid (stM_own hoA); have HWA := Lib.hid (bel_up2 (Below.refl wr.heap.size wr).drew hbA); have HOB := Lib.hid (HOA.out.to (al_b wA (.cells #[.int .i64 0, .int .i64 0] 31))); have HWB := Lib.hid (bel_up2 HWA.out (al_b wA (.cells #[.int .i64 0, .int .i64 0] 31))); clear hoA hbA
          refine hKA.out _ _ ?_ (fun hHeld => ?_)
          · exact HSO.out _ HWA.out
          clear hKA KA
          try simp only [Act.put, List.setIfInBounds_toArray, List.set_cons_zero, List.set_cons_succ]
          refine wpAnyF_take (i := 7) (oi := _) (v := ?v307) rfl (by kernel_rfl) (by kernel_rfl) (by kernel_rfl) (by kernel_rfl) (by kernel_rfl) (by kernel_rfl) (by kernel_rfl) (by kernel_rfl) (fun _ _ _ h => h) (Or.inl ⟨by rfl, ?hy307⟩) (by assumption) ?rest307
          case hy307 => (intro w hSw; (try dsimp only at hSw); go_simp; try (with_reducible rfl))
          try simp only [Act.put, List.setIfInBounds_toArray, List.set_cons_zero, List.set_cons_succ]
          refine wpAnyF_take (i := 8) (oi := _) (v := ?v308) rfl (by kernel_rfl) (by kernel_rfl) (by kernel_rfl) (by kernel_rfl) (by kernel_rfl) (by kernel_rfl) (by kernel_rfl) (by kernel_rfl) (fun _ _ _ h => h) (Or.inl ⟨by rfl, ?hy308⟩) (by assumption) ?rest308
          case hy308 => (intro w hSw; (try dsimp only at hSw); go_simp; try (with_reducible rfl))
          try simp only [Act.put, List.setIfInBounds_toArray, List.set_cons_zero, List.set_cons_succ]
          refine wpAnyF_take (i := 9) (oi := _) (v := ?v309) rfl (by kernel_rfl) (by kernel_rfl) (by kernel_rfl) (by kernel_rfl) (by kernel_rfl) (by kernel_rfl) (by kernel_rfl) (by kernel_rfl) (fun _ _ _ h => h) (Or.inl ⟨by rfl, ?hy309⟩) (by assumption) ?rest309
          case hy309 => (intro w hSw; (try dsimp only at hSw); go_simp; try (with_reducible rfl))
          try simp only [Act.put, List.setIfInBounds_toArray, List.set_cons_zero, List.set_cons_succ]
          refine wpAnyF_one (i := 10) (o := _) (by kernel_rfl) rfl (fun K310 hK310 => ?_)
          go_simp
          refine hK310.out _ _ ?_ (fun hHeld => ?_)
          · exact HSO.out _ HWB.out
          clear hK310 K310
          try simp only [Act.put, List.setIfInBounds_toArray, List.set_cons_zero, List.set_cons_succ]
          refine wpAnyF_take (i := 11) (oi := _) (v := ?v311) rfl (by kernel_rfl) (by kernel_rfl) (by kernel_rfl) (by kernel_rfl) (by kernel_rfl) (by kernel_rfl) (by kernel_rfl) (by kernel_rfl) (fun _ _ _ h => h) (Or.inl ⟨by rfl, ?hy311⟩) (by assumption) ?rest311
          case hy311 => (intro w hSw; (try dsimp only at hSw); go_simp; try (with_reducible rfl))
          try simp only [Act.put, List.setIfInBounds_toArray, List.set_cons_zero, List.set_cons_succ]
          refine wpAnyF_end (o := _) (by kernel_rfl) rfl (by kernel_rfl) (fun K312 hK312 => ?_)
          go_simp
          refine hK312.out _ _ ?_
          clear hK312 K312
          try simp only [Act.put, List.setIfInBounds_toArray, List.set_cons_zero, List.set_cons_succ]
          go_wp2
          go_roundw
          case rel => exact ⟨k + 1, u, by omega, by go_num, HU.out.1, HU.out.2, HOB.out, hM.out.to HWB.out, bel_up2 hBP.out HWB.out⟩
          case measure => simp [intOf]; omega
        · skip
          go_simp
          refine hKB.out _ _ ?_ (fun hHeld => ?_)
          · exact HSO.out _ (al_b _ _).drew
          clear hKB KB
          try simp only [Act.put, List.setIfInBounds_toArray, List.set_cons_zero, List.set_cons_succ]
          refine wpAnyF_one (i := 6) (o := _) (by kernel_rfl) rfl (fun K313 hK313 => ?_)
          go_simp
          go_at_call 7; (with_reducible refine (HAY.out _ (al_b wr (.cells #[.int .i64 0, .int .i64 0] 31)).drew).mono ?_); rintro e wA ⟨vA, rfl, hoA, hbA⟩; have HOA := Lib.hid hoA; have HWA := Lib.hid (bel_up2 (al_b wr (.cells #[.int .i64 0, .int .i64 0] 31)).drew hbA); obtain ⟨_, z0, z1, y0, y1⟩ := two_to (two1 (two_new wr (.int .i64 0) (.int .i64 0) 31)) hbA; clear hoA hbA
          refine hK313.out _ _ ?_ (fun hHeld => ?_)
          · exact HSO.out _ HWA.out
          clear hK313 K313
          try simp only [Act.put, List.setIfInBounds_toArray, List.set_cons_zero, List.set_cons_succ]
          refine wpAnyF_take (i := 7) (oi := _) (v := ?v314) rfl (by kernel_rfl) (by kernel_rfl) (by kernel_rfl) (by kernel_rfl) (by kernel_rfl) (by kernel_rfl) (by kernel_rfl) (by kernel_rfl) (fun _ _ _ h => h) (Or.inl ⟨by rfl, ?hy314⟩) (by assumption) ?rest314
          case hy314 => (intro w hSw; (try dsimp only at hSw); go_simp; try (with_reducible rfl))
          try simp only [Act.put, List.setIfInBounds_toArray, List.set_cons_zero, List.set_cons_succ]
          refine wpAnyF_take (i := 8) (oi := _) (v := ?v315) rfl (by kernel_rfl) (by kernel_rfl) (by kernel_rfl) (by kernel_rfl) (by kernel_rfl) (by kernel_rfl) (by kernel_rfl) (by kernel_rfl) (fun _ _ _ h => h) (Or.inl ⟨by rfl, ?hy315⟩) (by assumption) ?rest315
          case hy315 => (intro w hSw; (try dsimp only at hSw); go_simp; try (with_reducible rfl))
          try simp only [Act.put, List.setIfInBounds_toArray, List.set_cons_zero, List.set_cons_succ]
          refine wpAnyF_take (i := 9) (oi := _) (v := ?v316) rfl (by kernel_rfl) (by kernel_rfl) (by kernel_rfl) (by kernel_rfl) (by kernel_rfl) (by kernel_rfl) (by kernel_rfl) (by kernel_rfl) (fun _ _ _ h => h) (Or.inl ⟨by rfl, ?hy316⟩) (by assumption) ?rest316
          case hy316 => (intro w hSw; (try dsimp only at hSw); go_simp; try (with_reducible rfl))
          try simp only [Act.put, List.setIfInBounds_toArray, List.set_cons_zero, List.set_cons_succ]
          refine wpAnyF_take (i := 11) (oi := _) (v := ?v317) rfl (by kernel_rfl) (by kernel_rfl) (by kernel_rfl) (by kernel_rfl) (by kernel_rfl) (by kernel_rfl) (by kernel_rfl) (by kernel_rfl) (fun _ _ _ h => h) (Or.inl ⟨by rfl, ?hy317⟩) (by assumption) ?rest317
          case hy317 => (intro w hSw; (try dsimp only at hSw); go_simp; try (with_reducible rfl))
          try simp only [Act.put, List.setIfInBounds_toArray, List.set_cons_zero, List.set_cons_succ]
          refine wpAnyF_end (o := _) (by kernel_rfl) rfl (by kernel_rfl) (fun K318 hK318 => ?_)
          go_simp
          refine hK318.out _ _ ?_
          clear hK318 K318
          try simp only [Act.put, List.setIfInBounds_toArray, List.set_cons_zero, List.set_cons_succ]
          go_wp2
          have HWC := Lib.hid ((HWA.out.setCell (p := ⟨wr.heap.size, 0, none⟩) (Nat.le_refl _) (.int .i64 0)).setCell (p := ⟨wr.heap.size, 1, none⟩) (Nat.le_refl _) (.int .i64 0))
          have HOC := Lib.hid (stM_own (own_far3 (own_far3 HOA.out (p := ⟨wr.heap.size, 0, none⟩) (by show wr.heap.size < _; simp) (.int .i64 0)) (p := ⟨wr.heap.size, 1, none⟩) (by show wr.heap.size < _; simp) (.int .i64 0)))
          go_roundw
          case rel => exact ⟨k + 1, u, by omega, by go_num, HU.out.1, HU.out.2, HOC.out, hM.out.to HWC.out, bel_up2 hBP.out HWC.out⟩
          case measure => simp [intOf]; omega
      case neg =>
        obtain rfl : k = plan.length := by omega
        have hge : ¬ ((plan.length : Int) < plan.length) := by omega
        obtain ⟨t2, ht2, _, hrow⟩ := HLS.out plan.length (Nat.le_refl _)
        rw [HR.out] at ht2
        injection ht2 with ht2
        subst ht2
        have HROW := Lib.hid hrow
        have hml := ms_len HMS.out
        have HML := Lib.hid hml
        have h8 := HV.out.sz.n8
        have h1 := HV.out.sz.n1
        have ht8 : t.length ≤ 8 := by omega
        have ht1 : 1 ≤ t.length := by omega
        have hwt : IntKind.i64.wrap ((t.length : Int) - 1) = (t.length : Int) - 1 := IntWalk.i64_in _ (by omega)
        obtain ⟨i0, hi0, hz0, hz1, hz2⟩ := info_parts info_int
        have hMo := Lib.hid hM.out
        have HBR := Lib.hid (Below.refl wr.heap.size wr)
        clear hrow hml
        obtain ⟨bs, os, rfl, hbs, _⟩ := (HTL.out _ (Below.refl _ _)).nums.at_ (k := 0) (by omega)
        obtain ⟨q, hq⟩ : ∃ q, wr.heap.size = q := ⟨_, rfl⟩
        have HBS := Lib.hid (show bs < q by omega)
        have HQ0 := Lib.hid hq
        clear hbs
        go_wp2
        clear t0 t1 t2 t3 s0 s1 s2 s3 hM hq
        go_loopw [13, 14, 15] (fun a b i wv => ∃ v : Nat, v ≤ x.sizes.length ∧ i = .int .i64 v ∧ b = .int .i64 (smN x.sizes v) ∧ wv.ownsRow q 3 1 a (inN x.sizes t v).length ((inN x.sizes t v).map (Value.int .i64)) ∧ Below wr.heap.size wr wv) (fun _ _ i _ => x.sizes.length - (intOf i).toNat)
        case atStart => exact ⟨0, by omega, rfl, rfl, World.ownsRow_nil _ _ _ _, HBR.out⟩
        case round =>
          obtain ⟨v, hv, rfl, rfl, ho, hb⟩ := hrel
          have hOW := Lib.hid ho
          have hBW := Lib.hid hb
          have hM := Lib.hid (hMo.out.to hb)
          have HQS := Lib.hid (show q ≤ wr.heap.size by have := hb.size; have := HQ0.out; omega)
          clear ho hb
          obtain ⟨_, ⟨_, t0, t1, t2, t3⟩, ⟨_, s0, s1, s2, s3, _⟩, _⟩ := hM.out
          obtain ⟨av, cv, rfl, hlw, _⟩ := own_lst hOW.out
          by_cases hlv : v < x.sizes.length
          case pos =>
            have hlt3 : v < t.length := by have := HML.out; omega
            obtain ⟨b', o', e', _, hcs⟩ := (HTL.out _ hBW.out).nums.at_ hlt3
            cases e'
            obtain ⟨bz, oz, haz, _, hcz⟩ := (HX0.out _ hM.out.below).sizes.nums.at_ hlv
            rw [haz] at t0
            have HAZ := Lib.hid haz
            have hmt := ms_at HMS.out hlt3
            have hsz := HV.out.sz.r v hlv
            have hsm := smN_le HV.out.sz v (by omega)
            have hst : smN x.sizes (v + 1) = smN x.sizes v + ix x.sizes v := rfl
            have HS1 := Lib.hid hst
            have hw1 : IntKind.i64.wrap (smN x.sizes v + ix t v) = smN x.sizes v + ix t v := IntWalk.i64_in _ (by omega)
            have hw2 : IntKind.i64.wrap (smN x.sizes v + ix x.sizes v) = smN x.sizes v + ix x.sizes v := IntWalk.i64_in _ (by omega)
            have HIN := Lib.hid (fun (W : World) => in_any (v : Int) 0 ((t.length : Int) - 1) W)
            rw [inB_iff.2 (show 0 ≤ (v : Int) ∧ (v : Int) ≤ (t.length : Int) - 1 by omega)] at HIN
            have HSC := Lib.hid (fun (V : World) (h : Below wr.heap.size wr V) => (h.cell (p := ⟨bs, os + v, none⟩) (by have := HBS.out; have := HQS.out; show bs < _; omega)).trans hcs)
            have HNE := Lib.hid (show some bs ≠ (Value.slice av (inN x.sizes t v).length cv).ownBlock from fun e => by have h9 := (hOW.out.lt bs e.symm).1; have := HBS.out; omega)
            have HOB := Lib.hid (fun r (hr : (Value.slice av (inN x.sizes t v).length cv).ownBlock = some r) => (hOW.out.lt r hr).1)
            clear haz hmt hsz hsm hst hlw
            have HILN := Lib.hid (inN_len x.sizes t v)
            go_wp2_with (first | (go_at_call 8; (with_reducible refine (HIN.out _).mono ?_); rintro e w' ⟨rfl, rfl⟩) | (at_builtin; refine wpList_append_own _ rfl _ _ 22 rfl q 3 i0 (.int .i64 0) 1 8 Tryd.underlying22 hi0 hz0 hz1 hz2 rfl (by decide) _ _ _ rfl (own_to hOW.out (al_b wr _)) ⟨wr.heap.size, 0, none⟩ 1 1 [.int .i64 (smN x.sizes v + ix t v)] rfl rfl (news1 (cell_new _ _ _).1) (by simp [Value.oneCell']) (by rw [inN_len]; unfold maxLen; omega) (by rw [inN_len]; omega) (by have := HQS.out; simp; omega) ?_))
            intro v6 w6 hown6 hgrow6 _
            have HON := Lib.hid hown6
            have HGW := Lib.hid hgrow6
            clear hown6 hgrow6
            have hbn := Lib.hid ((hBW.out.trans ((al_b wr (.cells #[.int .i64 (smN x.sizes v + ix t v)] 3)).mono hBW.out.size)).grown HGW.out (by have := hBW.out.size; simp; omega) (fun r hr => by rw [HQ0.out]; exact HOB.out r hr))
            have hM := Lib.hid (hMo.out.to hbn.out)
            clear t0 t1 t2 t3 s0 s1 s2 s3
            obtain ⟨_, ⟨_, t0, t1, t2, t3⟩, ⟨_, s0, s1, s2, s3, _⟩, _⟩ := hM.out
            rw [HAZ.out] at t0
            have hcz := (HSZ.out _ hM.out.below) v hlv bz oz HAZ.out
            go_wp2
            go_roundw
            case rel =>
              refine ⟨v + 1, by omega, by go_num, by rw [HS1.out], ?_, hbn.out⟩
              rw [inN_succ]
              simp only [List.length_append, List.length_singleton, List.map_append, List.map_cons, List.map_nil]
              exact HON.out
            case measure => simp [intOf]; omega
          case neg =>
            obtain rfl : v = x.sizes.length := by omega
            have hgv : ¬ ((x.sizes.length : Int) < x.sizes.length) := by omega
            have hlsn := HLN.out
            obtain ⟨b9, o9, e9, _, hrw⟩ := (HRW.out _ (bel_up2 hBP.out hBW.out)) (by omega)
            subst e9
            obtain ⟨ak, ck, hck, hlk⟩ := hrw plan.length (by omega)
            have hwl : IntKind.i64.wrap ((ls.length : Int) - 1) = (plan.length : Int) := by rw [IntWalk.i64_in _ (by omega)]; omega
            have hpl2 : plan.length < ls.length := by omega
            have HII := Lib.hid (ints_same ak av ck cv (rw_ ls plan.length) (inN x.sizes t x.sizes.length) HROW.out _ hlk hlw)
            have HLS2 := Lib.hid hlsn
            clear hlsn hlk hlw
            go_wp2_with (go_at_call 9; (with_reducible refine HII.out.mono ?_); rintro e w' ⟨rfl, hb⟩; have hM := Lib.hid (hM.out.to hb); clear hb)
            go_ret
            exact ⟨rfl, hM.out.below⟩
theorem ov_any (x : MT) (A : Option Addr) (c : Nat) (plan : List Int) (w : World) (hX : MTIn w w.heap.size x) (hP : Lst w w.heap.size A c plan) (hT : TabIn w) :
    Calls Tryd.prog 3 #[.agg #[.slice x.az x.sizes.length x.cz, .slice x.ai x.init.length x.ci, .slice x.ag x.goal.length x.cg, .slice x.ao x.ops.length x.co], .slice A plan.length c] w fun e w' => e = .returned (.bool true) ∧ Below w.heap.size w w' := by
  by_cases h : (msF x).1 = 0
  · exact ov_good x A c plan w hX hP hT h
  · exact ov_bad x A c plan w hX h
end Go.Proofs.YthlafcmabeiagaaDoor
