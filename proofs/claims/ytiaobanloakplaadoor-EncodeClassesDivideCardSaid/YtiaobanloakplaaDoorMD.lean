/- Mze, Mzh, Mzp in one text. -/
import Derived.Test.YtiaobanloakplaaDoorMC
import Derived.Test.YtiaobanloakplaaDoorMA
import Derived.Lib.SmallJoins

/- Apply, Solves and Cost of package multi. -/
section
namespace Go.Proofs.YtiaobanloakplaaDoor
open Go.RowKit
set_option linter.unusedSimpArgs false
set_option linter.unusedVariables false
set_option maxRecDepth 100000


/-- The fault and the state of Apply. -/
def apF (x : MT) (s : List Int) (op : Int) : Int × Int := if (ckM x s [op]).1 ≠ 0 then ckM x s [op] else if holdB s (mop x.ops op.toNat).pre then (0, 0) else (11, op)
def apR (x : MT) (s : List Int) (op : Int) : List Int := if (apF x s op).1 = 0 then aft s (mop x.ops op.toNat).post else []
theorem lst_new1 (w : World) (op : Int) : Lst (w.alloc (.cells #[.int .i64 op] 3)) (w.alloc (.cells #[.int .i64 op] 3)).heap.size (some ⟨w.heap.size, 0, none⟩) 1 [op] := lst_one (by simp) (by simp)
set_option maxHeartbeats 4000000 in
theorem mapply_any (x : MT) (A : Option Addr) (c : Nat) (s : List Int) (op : Int) (w : World) (hX : MTIn w w.heap.size x) (hS : Lst w w.heap.size A c s) (hA : A = none → c = 0) :
    Calls Tryd.prog 30 #[.agg #[.slice x.az x.sizes.length x.cz, .slice x.ai x.init.length x.ci, .slice x.ag x.goal.length x.cg, .slice x.ao x.ops.length x.co], .slice A s.length c, .int .i64 op] w (LsF w (apR x s op) (apF x s op)) := by
  have hF := Lib.hid (frM_new w x 38 28)
  have hF := Lib.hid (hF.out.to (al_b _ (.cells #[.int .i64 op] 3)))
  have HCK0 := Lib.hid (fun (b : Nat) (W : World) (h : Below w.heap.size w W) (hl : Lst W W.heap.size (some ⟨b, 0, none⟩) 1 [op]) => show Calls Tryd.prog 59 #[.agg #[.slice x.az x.sizes.length x.cz, .slice x.ai x.init.length x.ci, .slice x.ag x.goal.length x.cg, .slice x.ao x.ops.length x.co], .slice A s.length c, .slice (some ⟨b, 0, none⟩) 1 1] W fun e w' => e = .returned (faultV (ckM x s [op])) ∧ Below W.heap.size W w' from mcheck_any x A (some ⟨b, 0, none⟩) c 1 s [op] W (hX.to h h.size) (hS.to h h.size) hl)
  have HCK := Lib.hid (HCK0.out (w.heap.size + 1 + 1) _ hF.out.below (by have := lst_new1 ((w.alloc (.cells #[.slice x.az x.sizes.length x.cz, .slice x.ai x.init.length x.ci, .slice x.ag x.goal.length x.cg, .slice x.ao x.ops.length x.co] 38)).alloc (.cells #[.int .i64 0, .int .i64 0] 28)) op; simpa using this))
  clear HCK0
  by_cases hn : (ckM x s [op]).1 = 0
  case neg =>
    have H := Lib.hid (show apF x s op = ckM x s [op] by unfold apF; rw [if_pos hn])
    have H2 := Lib.hid (show apR x s op = [] by unfold apR; rw [H.out, if_neg hn])
    rw [H.out, H2.out]
    clear H H2 hX hS hA
    generalize ckM x s [op] = r at *
    have hne : (r.1 != 0) = true := by simpa using hn
    have hne2 : (r.1 == 0) = false := by simpa using hn
    clear hn
    go_enter Tryd.func30, Tryd.ntmps30
    go_wp2_with (go_at_call 59; (with_reducible refine HCK.out.mono ?_); rintro e w1 ⟨rfl, hb1⟩; have hF := Lib.hid ((hF.out.to hb1).to (al_b w1 (.cells #[.int .i64 r.1, .int .i64 r.2] 28))); obtain ⟨_, ⟨_, t0, t1, t2, t3⟩, ⟨_, k0, k1, f0, f1⟩⟩ := hF.out; clear hb1)
    go_region
    all_goals
      go_wp2
      refine post_with_fault (g := w.heap.size + 1) (x := .int .i64 r.1) (y := .int .i64 r.2) Tryd.results30 rfl (two1 (hF.out.two.set _ _)) ?_
      exact ⟨_, rfl, World.ownsRow_nil _ _ _ _, ((hF.out.below.setCell (by simp) _).setCell (by simp) _).drew⟩
  have hFF := show apF x s op = if (ckM x s [op]).1 ≠ 0 then ckM x s [op] else if holdB s (mop x.ops op.toNat).pre then (0, 0) else (11, op) from rfl
  have hRR := show apR x s op = if (apF x s op).1 = 0 then aft s (mop x.ops op.toNat).post else [] from rfl
  rw [if_neg (by simp [hn])] at hFF
  obtain ⟨hv, hm, hp, _, hz⟩ := ck_ok hn
  rw [hz] at HCK
  have hlen := ms_len hm
  have h1 : 1 ≤ s.length := by have := hv.sz.n1; omega
  have h8 : s.length ≤ 8 := by have := hv.sz.n8; omega
  obtain ⟨g0, g1⟩ := planB_at hp (k := 0) (by simp)
  have hop : ix [op] 0 = op := rfl
  rw [hop] at g0 g1
  obtain ⟨m, rfl⟩ := Int.eq_ofNat_of_zero_le g0
  rw [Int.toNat_natCast] at hFF hRR
  have hlt : m < x.ops.length := by omega
  obtain ⟨b, p, a1, a2, c1, c2, hao, hbl, hq0, hpre0, hpost0⟩ := hX.ops.at_ hlt
  have HQ := Lib.hid (fun (W : World) (h : Below w.heap.size w W) => hq0.to h hbl)
  have HCL := Lib.hid (fun (W : World) (h : Below w.heap.size w W) => clone_any A c s W (hS.to h h.size) hA (by omega))
  have HST := Lib.hid (fun (base g cap : Nat) (W : World) (h : Below w.heap.size w W) (hb : w.heap.size + 2 ≤ base) (hb2 : base ≤ W.heap.size) (hg : base ≤ g) (hr : Row W base g cap s) => step_any x.sizes a1 a2 c1 c2 (mop x.ops m) (hv.pre m hlt) (hv.post m hlt) s hlen base g cap W hb2 hg hr (hpre0.to h (by omega)) (hpost0.to h (by omega)))
  have HAO := Lib.hid hao
  have hmo := hv.m
  clear hn hz hX hS hA hv hm hp hlen hao hq0 hpre0 hpost0 g0 hop h8
  cases hh : holdB s (mop x.ops m).pre
  · rw [hh] at hFF
    have H := Lib.hid (show apF x s (m : Int) = (11, (m : Int)) from hFF)
    have H2 := Lib.hid (show apR x s (m : Int) = [] by rw [hRR, H.out]; rfl)
    have HSF := Lib.hid hh
    clear hFF hRR hh
    rw [H.out, H2.out]
    have HST := Lib.hid (fun base g cap W h hb hb2 hg hr => (HST.out base g cap W h hb hb2 hg hr).mono (fun e w' (q : StP W base g cap s (mop x.ops m) e w') => show e = .returned (.bool false) ∧ Row w' base g cap s ∧ Below base W w' by
      have q1 := q.1; have q2 := q.2.1; rw [HSF.out] at q1 q2; exact ⟨q1, q2, q.2.2⟩))
    go_enter Tryd.func30, Tryd.ntmps30
    go_wp2_with (first | (go_at_call 59; (with_reducible refine HCK.out.mono ?_); rintro e w1 ⟨rfl, hb1⟩; have hF := Lib.hid ((hF.out.to hb1).to (al_b w1 (.cells #[.int .i64 0, .int .i64 0] 28))); obtain ⟨_, ⟨_, t0, t1, t2, t3⟩, ⟨_, k0, k1, f0, f1⟩⟩ := hF.out; clear hb1) | (go_at_call 60; (with_reducible refine (HCL.out _ hF.out.below).mono ?_); rintro e w3 ⟨v3, rfl, ho3, hb3⟩; obtain ⟨g, cap, rfl, hg, hgl⟩ := own_some1 ho3 h1; have HG := Lib.hid hg; have hR := Lib.hid ho3; have hBS := Lib.hid (show w.heap.size + 2 ≤ (w1.alloc (.cells #[.int .i64 0, .int .i64 0] 28)).heap.size from hF.out.two.lt); have hBS3 := Lib.hid hb3.size; have hF := Lib.hid (hF.out.to hb3); obtain ⟨_, ⟨_, t0, t1, t2, t3⟩, ⟨_, k0, k1, f0, f1⟩⟩ := hF.out; rw [HAO.out] at t3; obtain ⟨q0, q1, q2⟩ := HQ.out _ hF.out.below; clear ho3 hb3 hg hgl) | (go_at_call 61; (with_reducible refine (HST.out _ _ _ _ hF.out.below hBS.out hBS3.out HG.out hR.out).mono ?_); rintro e w4 ⟨rfl, hr4, hb4⟩; have hF := Lib.hid (hF.out.toB hb4 hBS.out); have hR := Lib.hid hr4; obtain ⟨_, ⟨_, t0, t1, t2, t3⟩, ⟨_, k0, k1, f0, f1⟩⟩ := hF.out; clear hr4 hb4))
    refine post_with_fault (g := w.heap.size + 1) (x := .int .i64 11) (y := .int .i64 m) Tryd.results30 rfl (hF.out.two.set _ _) ?_
    exact ⟨_, rfl, World.ownsRow_nil _ _ _ _, (hF.out.below.setCell (by simp) _).setCell (by simp) _⟩
  · rw [hh] at hFF
    have H := Lib.hid (show apF x s (m : Int) = (0, 0) from hFF)
    have H2 := Lib.hid (show apR x s (m : Int) = aft s (mop x.ops m).post by rw [hRR, H.out]; rfl)
    have HSF := Lib.hid hh
    clear hFF hRR hh
    rw [H.out, H2.out]
    have HST := Lib.hid (fun base g cap W h hb hb2 hg hr => (HST.out base g cap W h hb hb2 hg hr).mono (fun e w' (q : StP W base g cap s (mop x.ops m) e w') => show e = .returned (.bool true) ∧ Row w' base g cap (aft s (mop x.ops m).post) ∧ Below base W w' by
      have q1 := q.1; have q2 := q.2.1; rw [HSF.out] at q1 q2; exact ⟨q1, q2, q.2.2⟩))
    go_enter Tryd.func30, Tryd.ntmps30
    go_wp2_with (first | (go_at_call 59; (with_reducible refine HCK.out.mono ?_); rintro e w1 ⟨rfl, hb1⟩; have hF := Lib.hid ((hF.out.to hb1).to (al_b w1 (.cells #[.int .i64 0, .int .i64 0] 28))); obtain ⟨_, ⟨_, t0, t1, t2, t3⟩, ⟨_, k0, k1, f0, f1⟩⟩ := hF.out; clear hb1) | (go_at_call 60; (with_reducible refine (HCL.out _ hF.out.below).mono ?_); rintro e w3 ⟨v3, rfl, ho3, hb3⟩; obtain ⟨g, cap, rfl, hg, hgl⟩ := own_some1 ho3 h1; have HG := Lib.hid hg; have hR := Lib.hid ho3; have hBS := Lib.hid (show w.heap.size + 2 ≤ (w1.alloc (.cells #[.int .i64 0, .int .i64 0] 28)).heap.size from hF.out.two.lt); have hBS3 := Lib.hid hb3.size; have hF := Lib.hid (hF.out.to hb3); obtain ⟨_, ⟨_, t0, t1, t2, t3⟩, ⟨_, k0, k1, f0, f1⟩⟩ := hF.out; rw [HAO.out] at t3; obtain ⟨q0, q1, q2⟩ := HQ.out _ hF.out.below; clear ho3 hb3 hg hgl) | (go_at_call 61; (with_reducible refine (HST.out _ _ _ _ hF.out.below hBS.out hBS3.out HG.out hR.out).mono ?_); rintro e w4 ⟨rfl, hr4, hb4⟩; have hF := Lib.hid (hF.out.toB hb4 hBS.out); have hR := Lib.hid hr4; obtain ⟨_, ⟨_, t0, t1, t2, t3⟩, ⟨_, k0, k1, f0, f1⟩⟩ := hF.out; clear hr4 hb4))
    refine post_with_fault (g := w.heap.size + 1) (x := .int .i64 0) (y := .int .i64 0) Tryd.results30 rfl (hF.out.two.set _ _) ?_
    have hr9 := hR.out
    unfold Row at hr9
    rw [aft_len] at hr9
    have hbs := hBS.out
    refine ⟨_, rfl, ?_, (hF.out.below.setCell (by simp) _).setCell (by simp) _⟩
    rw [aft_len]
    exact own_mono (own_far2 (own_far2 hr9 (p := ⟨w.heap.size + 1, 0, none⟩) (by show w.heap.size + 1 < _; omega) (.int .i64 0)) (p := ⟨w.heap.size + 1, 1, none⟩) (by show w.heap.size + 1 < _; omega) (.int .i64 0)) (by omega)
end Go.Proofs.YtiaobanloakplaaDoor
end

/- Solves and Cost of package multi. -/
section
namespace Go.Proofs.YtiaobanloakplaaDoor
open Go.RowKit
set_option linter.unusedSimpArgs false
set_option linter.unusedVariables false
set_option maxRecDepth 100000


/-- A value and a fault. -/
def VlF (w : World) (v : Value) (f : Int × Int) (e : Ending) (w' : World) : Prop := e = .returned (.tuple #[v, faultV f]) ∧ Below w.heap.size w w'
def slB (x : MT) (plan : List Int) : Bool := if (ckM x x.init plan).1 = 0 then msol x plan else false
def coN (x : MT) (plan : List Int) : Int := if (ckM x x.init plan).1 = 0 then mcost x.ops plan plan.length else 0
set_option maxHeartbeats 4000000 in
theorem msolve_any (x : MT) (A : Option Addr) (c : Nat) (plan : List Int) (w : World) (hX : MTIn w w.heap.size x) (hP : Lst w w.heap.size A c plan) :
    Calls Tryd.prog 22 #[.agg #[.slice x.az x.sizes.length x.cz, .slice x.ai x.init.length x.ci, .slice x.ag x.goal.length x.cg, .slice x.ao x.ops.length x.co], .slice A plan.length c] w (VlF w (.bool (slB x plan)) (ckM x x.init plan)) := by
  have hF := Lib.hid (frM_new w x 38 28)
  have HCK := Lib.hid (mcheck_any x x.ai A x.ci c x.init plan _ (hX.to hF.out.below hF.out.below.size) (hX.init.to hF.out.below hF.out.below.size) (hP.to hF.out.below hF.out.below.size))
  by_cases hn : (ckM x x.init plan).1 = 0
  case neg =>
    have H := Lib.hid (show slB x plan = false by unfold slB; rw [if_neg hn])
    rw [H.out]
    clear H hX hP
    generalize ckM x x.init plan = r at *
    have hne : (r.1 != 0) = true := by simpa using hn
    have hne2 : (r.1 == 0) = false := by simpa using hn
    clear hn
    go_enter Tryd.func22, Tryd.ntmps22
    go_wp2_with (go_at_call 59; (with_reducible refine HCK.out.mono ?_); rintro e w1 ⟨rfl, hb1⟩; have hF := Lib.hid ((hF.out.to hb1).to (al_b w1 (.cells #[.int .i64 r.1, .int .i64 r.2] 28))); obtain ⟨_, ⟨_, t0, t1, t2, t3⟩, ⟨_, k0, k1, f0, f1⟩⟩ := hF.out; clear hb1)
    go_region
    all_goals
      go_wp2
      refine post_with_fault (g := w.heap.size + 1) (x := .int .i64 r.1) (y := .int .i64 r.2) Tryd.results22 rfl (two1 (hF.out.two.set _ _)) ?_
      exact ⟨rfl, ((hF.out.below.setCell (by simp) _).setCell (by simp) _).drew⟩
  have H := Lib.hid (show slB x plan = msol x plan by unfold slB; rw [if_pos hn])
  rw [H.out]
  obtain ⟨hv, hm, hp, hpl, hz⟩ := ck_ok hn
  rw [hz] at HCK ⊢
  have h1 : 1 ≤ x.init.length := by have := hv.sz.n1; have := ms_len hm; omega
  have h8 : x.init.length ≤ 8 := by have := hv.sz.n8; have := ms_len hm; omega
  have HX0 := Lib.hid (fun (W : World) (h : Below w.heap.size w W) => hX.to h h.size)
  have HP0 := Lib.hid (fun (W : World) (h : Below w.heap.size w W) => hP.to h h.size)
  have HCL := Lib.hid (fun (W : World) (h : Below w.heap.size w W) => clone_any x.ai x.ci x.init W (hX.init.to h h.size) hX.nil (by omega))
  have HXW := Lib.hid hX
  have HV := Lib.hid hv
  have HPB := Lib.hid (fun k (hk : k < plan.length) => planB_at hp hk)
  have hmo := hv.m
  clear H hn hz hX hP hv hm hp h8
  go_enter Tryd.func22, Tryd.ntmps22
  go_wp2_with (first | (go_at_call 59; (with_reducible refine HCK.out.mono ?_); rintro e w1 ⟨rfl, hb1⟩; have hF := Lib.hid ((hF.out.to hb1).to (al_b w1 (.cells #[.int .i64 0, .int .i64 0] 28))); obtain ⟨_, ⟨_, t0, t1, t2, t3⟩, ⟨_, k0, k1, f0, f1⟩⟩ := hF.out; clear hb1) | (go_at_call 60; (with_reducible refine (HCL.out _ hF.out.below).mono ?_); rintro e w3 ⟨v3, rfl, ho3, hb3⟩; obtain ⟨g, cap, rfl, hg, hgl⟩ := own_some1 ho3 h1; have HG := Lib.hid hg; have hR := Lib.hid ho3; have hBS := Lib.hid (show w.heap.size + 2 ≤ (w1.alloc (.cells #[.int .i64 0, .int .i64 0] 28)).heap.size from hF.out.two.lt); have hF := Lib.hid (hF.out.to hb3); obtain ⟨_, ⟨_, t0, t1, t2, t3⟩, ⟨_, k0, k1, f0, f1⟩⟩ := hF.out; clear ho3 hb3 hg hgl))
  have hBS3 := Lib.hid (show (w1.alloc (.cells #[.int .i64 0, .int .i64 0] 28)).heap.size ≤ w3.heap.size from hR.out.lt g rfl |>.2 |> fun h => by have := HG.out; omega)
  generalize (w1.alloc (.cells #[.int .i64 0, .int .i64 0] 28)).heap.size = base at *
  go_loopw [24] (fun i wr => ∃ (k : Nat) (t : List Int), k ≤ plan.length ∧ i = .int .i64 k ∧ mrun x.ops plan x.init k = some t ∧ msB x.sizes t = true ∧ Row wr base g cap t ∧ base ≤ wr.heap.size ∧ FrM w wr x 0 0) (fun i _ => plan.length - (intOf i).toNat)
  case atStart => exact ⟨0, x.init, by omega, rfl, rfl, HV.out.init, hR.out, hBS3.out, hF.out⟩
  case round =>
    rename_i wr
    clear t0 t1 t2 t3 k0 k1 f0 f1 HCK hR
    clear hF
    obtain ⟨k, t, hk, rfl, hr, hm, ho, hbb, hf⟩ := hrel
    have HR := Lib.hid hr
    have HM := Lib.hid hm
    have hR := Lib.hid ho
    have HBW := Lib.hid hbb
    have hF := Lib.hid hf
    clear hr hm ho hbb hf
    obtain ⟨_, ⟨_, t0, t1, t2, t3⟩, ⟨_, k0, k1, f0, f1⟩⟩ := hF.out
    have htl : t.length = x.init.length := by rw [ms_len HM.out, ms_len HV.out.init]
    by_cases hlt : k < plan.length
    case neg =>
      obtain rfl : k = plan.length := by omega
      have hge : ¬ ((plan.length : Int) < plan.length) := by omega
      have HS := Lib.hid (msol_end HR.out)
      have HHO := Lib.hid (holds_any x.sizes (some ⟨g, 0, none⟩) x.ag cap x.cg t x.goal HV.out.goal (ms_len HM.out) wr (HX0.out _ hF.out.below).goal (own_l2 hR.out))
      rw [htl] at HHO
      clear htl
      go_wp2_with (go_at_call 62; (with_reducible refine HHO.out.mono ?_); rintro e w5 ⟨rfl, hb5⟩; have hF := Lib.hid (hF.out.to hb5); clear hb5; obtain ⟨_, ⟨_, t0, t1, t2, t3⟩, ⟨_, k0, k1, f0, f1⟩⟩ := hF.out)
      refine post_with_fault (g := w.heap.size + 1) (x := .int .i64 0) (y := .int .i64 0) Tryd.results22 rfl (hF.out.two.set _ _) ?_
      rw [HS.out]
      exact ⟨rfl, (hF.out.below.setCell (by simp) _).setCell (by simp) _⟩
    obtain ⟨b, o, rfl, hbl, hc0⟩ := (HP0.out _ hF.out.below).nums.at_ hlt
    obtain ⟨g0, g1⟩ := HPB.out k hlt
    obtain ⟨m, hm⟩ := Int.eq_ofNat_of_zero_le g0
    have HS1 := Lib.hid (show (ix plan k).toNat = m by rw [hm]; rfl)
    rw [hm] at g1 hc0
    have hmo2 : m < x.ops.length := by omega
    clear hm g0
    obtain ⟨b2, p, a1, a2, c1, c2, hao, hbl2, hq0, hpre0, hpost0⟩ := HXW.out.ops.at_ hmo2
    have HAO := Lib.hid hao
    rw [hao] at t3
    obtain ⟨q0, q1, q2⟩ := hq0.to hF.out.below hbl2
    have HST := Lib.hid (step_any x.sizes a1 a2 c1 c2 (mop x.ops m) (HV.out.pre m hmo2) (HV.out.post m hmo2) t (ms_len HM.out) base g cap wr HBW.out HG.out hR.out (hpre0.to hF.out.below (by have := hBS.out; omega)) (hpost0.to hF.out.below (by have := hBS.out; omega)))
    rw [htl] at HST
    clear hq0 hao hpre0 hpost0 htl
    cases hh : holdB t (mop x.ops m).pre
    · have HS := Lib.hid (msol_bad hlt HR.out (by rw [HS1.out]; exact hh))
      have HSF := Lib.hid hh
      have HST := Lib.hid (HST.out.mono (fun e w' (q : StP wr base g cap t (mop x.ops m) e w') => show e = .returned (.bool false) ∧ True ∧ Below base wr w' by
        have q1 := q.1; rw [HSF.out] at q1; exact ⟨q1, trivial, q.2.2⟩))
      clear hh
      rw [HS.out]
      go_wp2_with (go_at_call 61; (with_reducible refine HST.out.mono ?_); rintro e w4 ⟨rfl, hr4, hb4⟩; have hF := Lib.hid (hF.out.toB hb4 hBS.out); have hR := Lib.hid hr4; obtain ⟨_, ⟨_, t0, t1, t2, t3⟩, ⟨_, k0, k1, f0, f1⟩⟩ := hF.out; clear hr4 hb4)
      refine post_with_fault (g := w.heap.size + 1) (x := .int .i64 0) (y := .int .i64 0) Tryd.results22 rfl (hF.out.two.set _ _) ?_
      exact ⟨rfl, (hF.out.below.setCell (by simp) _).setCell (by simp) _⟩
    · have HS := Lib.hid (mrun_step HR.out (by rw [HS1.out]; exact hh))
      have HSF := Lib.hid hh
      have HST := Lib.hid (HST.out.mono (fun e w' (q : StP wr base g cap t (mop x.ops m) e w') => show e = .returned (.bool true) ∧ (Row w' base g cap (aft t (mop x.ops m).post) ∧ base ≤ w'.heap.size) ∧ Below base wr w' by
        have q1 := q.1; have q2 := q.2.1; rw [HSF.out] at q1 q2; exact ⟨q1, ⟨q2, by have := q.2.2.size; have := HBW.out; omega⟩, q.2.2⟩))
      clear hh
      go_wp2_with (go_at_call 61; (with_reducible refine HST.out.mono ?_); rintro e w4 ⟨rfl, hr4, hb4⟩; have hF := Lib.hid (hF.out.toB hb4 hBS.out); have hR := Lib.hid hr4; obtain ⟨_, ⟨_, t0, t1, t2, t3⟩, ⟨_, k0, k1, f0, f1⟩⟩ := hF.out; clear hr4 hb4)
      go_roundw
      case rel => exact ⟨k + 1, _, by omega, by go_num, HS.out, by rw [HS1.out]; exact ms_aft (HV.out.post m hmo2) HM.out, by rw [HS1.out]; exact hR.out.1, hR.out.2, hF.out⟩
      case measure => simp [intOf]; omega

set_option maxHeartbeats 4000000 in
theorem mcost_any (x : MT) (A : Option Addr) (c : Nat) (plan : List Int) (w : World) (hX : MTIn w w.heap.size x) (hP : Lst w w.heap.size A c plan) :
    Calls Tryd.prog 23 #[.agg #[.slice x.az x.sizes.length x.cz, .slice x.ai x.init.length x.ci, .slice x.ag x.goal.length x.cg, .slice x.ao x.ops.length x.co], .slice A plan.length c] w (VlF w (.int .i64 (coN x plan)) (ckM x x.init plan)) := by
  have hF := Lib.hid (frM_new w x 38 28)
  have HCK := Lib.hid (mcheck_any x x.ai A x.ci c x.init plan _ (hX.to hF.out.below hF.out.below.size) (hX.init.to hF.out.below hF.out.below.size) (hP.to hF.out.below hF.out.below.size))
  by_cases hn : (ckM x x.init plan).1 = 0
  case neg =>
    have H := Lib.hid (show coN x plan = 0 by unfold coN; rw [if_neg hn])
    rw [H.out]
    clear H hX hP
    generalize ckM x x.init plan = r at *
    have hne : (r.1 != 0) = true := by simpa using hn
    have hne2 : (r.1 == 0) = false := by simpa using hn
    clear hn
    go_enter Tryd.func23, Tryd.ntmps23
    go_wp2_with (go_at_call 59; (with_reducible refine HCK.out.mono ?_); rintro e w1 ⟨rfl, hb1⟩; have hF := Lib.hid ((hF.out.to hb1).to (al_b w1 (.cells #[.int .i64 r.1, .int .i64 r.2] 28))); obtain ⟨_, ⟨_, t0, t1, t2, t3⟩, ⟨_, k0, k1, f0, f1⟩⟩ := hF.out; clear hb1)
    go_region
    all_goals
      go_wp2
      refine post_with_fault (g := w.heap.size + 1) (x := .int .i64 r.1) (y := .int .i64 r.2) Tryd.results23 rfl (two1 (hF.out.two.set _ _)) ?_
      exact ⟨rfl, ((hF.out.below.setCell (by simp) _).setCell (by simp) _).drew⟩
  have H := Lib.hid (show coN x plan = mcost x.ops plan plan.length by unfold coN; rw [if_pos hn])
  rw [H.out]
  obtain ⟨hv, hm, hp, hpl, hz⟩ := ck_ok hn
  rw [hz] at HCK ⊢
  have HX0 := Lib.hid (fun (W : World) (h : Below w.heap.size w W) => hX.to h h.size)
  have HP0 := Lib.hid (fun (W : World) (h : Below w.heap.size w W) => hP.to h h.size)
  have HXW := Lib.hid hX
  have HPB := Lib.hid (fun k (hk : k < plan.length) => planB_at hp hk)
  have HCB := Lib.hid (mcost_le hv hp)
  have hmo := hv.m
  clear H hn hz hX hP hv hm hp
  go_enter Tryd.func23, Tryd.ntmps23
  go_wp2_with (go_at_call 59; (with_reducible refine HCK.out.mono ?_); rintro e w1 ⟨rfl, hb1⟩; have hF := Lib.hid ((hF.out.to hb1).to (al_b w1 (.cells #[.int .i64 0, .int .i64 0] 28))); obtain ⟨_, ⟨_, t0, t1, t2, t3⟩, ⟨_, k0, k1, f0, f1⟩⟩ := hF.out; clear hb1)
  go_loop [7, 21] (fun y i => ∃ k : Nat, k ≤ plan.length ∧ i = .int .i64 k ∧ y = .int .i64 (mcost x.ops plan k)) (fun _ i => plan.length - (intOf i).toNat)
  case atStart => exact ⟨0, by omega, rfl, rfl⟩
  case round =>
    obtain ⟨k, hk, rfl, rfl⟩ := hrel
    by_cases hlt : k < plan.length
    case neg =>
      obtain rfl : k = plan.length := by omega
      have hge : ¬ ((plan.length : Int) < plan.length) := by omega
      go_wp2
      refine post_with_fault (g := w.heap.size + 1) (x := .int .i64 0) (y := .int .i64 0) Tryd.results23 rfl (hF.out.two.set _ _) ?_
      exact ⟨rfl, (hF.out.below.setCell (by simp) _).setCell (by simp) _⟩
    obtain ⟨b, o, rfl, hbl, hc0⟩ := (HP0.out _ hF.out.below).nums.at_ hlt
    obtain ⟨g0, g1⟩ := HPB.out k hlt
    obtain ⟨m, hm⟩ := Int.eq_ofNat_of_zero_le g0
    have hst : mcost x.ops plan (k + 1) = mcost x.ops plan k + (mop x.ops m).cost := by simp only [mcost]; rw [hm]; rfl
    have hcb := HCB.out (k + 1) (by omega)
    rw [hst] at hcb
    have HS := Lib.hid hst
    rw [hm] at g1 hc0
    have hmo2 : m < x.ops.length := by omega
    clear hm g0 hst
    obtain ⟨b2, p, a1, a2, c1, c2, hao, hbl2, hq0, hpre0, hpost0⟩ := HXW.out.ops.at_ hmo2
    have HAO := Lib.hid hao
    rw [hao] at t3
    obtain ⟨q0, q1, q2⟩ := hq0.to hF.out.below hbl2
    have hwp : IntKind.i64.wrap (mcost x.ops plan k + (mop x.ops m).cost) = mcost x.ops plan k + (mop x.ops m).cost := IntWalk.i64_in _ (by omega)
    clear hq0 hao hpre0 hpost0 hcb
    go_wp2
    go_round
    case rel => exact ⟨k + 1, by omega, by go_num, by rw [HS.out]⟩
    case measure => simp [intOf]; omega
end Go.Proofs.YtiaobanloakplaaDoor
end

/- Strips: pure facts; firstFacts, given and others. -/
section
namespace Go.Proofs.YtiaobanloakplaaDoor
open Go.RowKit
set_option linter.unusedSimpArgs false
set_option linter.unusedVariables false
set_option maxRecDepth 100000

/-- The sum of the first k sizes. -/
def smN (S : List Int) : Nat → Int
  | 0 => 0
  | k + 1 => smN S k + ix S k
def fsN (S : List Int) (k : Nat) : List Int := (List.range k).map (smN S)
def fsL (S : List Int) : List Int := fsN S S.length
def gv1 (S : List Int) (a : Asg) : Int := smN S a.v.toNat + a.x
def gvN (S : List Int) (l : List Asg) (k : Nat) : List Int := (l.take k).map (gv1 S)
def gvL (S : List Int) (l : List Asg) : List Int := l.map (gv1 S)
def ot1 (S : List Int) (a : Asg) (n : Nat) : List Int := ((List.range n).filter (fun (j : Nat) => decide (((j : Nat) : Int) ≠ a.x))).map (fun (j : Nat) => smN S a.v.toNat + ((j : Nat) : Int))
def otA (S : List Int) (a : Asg) : List Int := ot1 S a (ix S a.v.toNat).toNat
def otN (S : List Int) (l : List Asg) (k : Nat) : List Int := (l.take k).flatMap (otA S)
def otL (S : List Int) (l : List Asg) : List Int := l.flatMap (otA S)
theorem smN_le {S : List Int} (h : SzOk S) : ∀ k, k ≤ S.length → (k : Int) ≤ smN S k ∧ smN S k ≤ 6 * k
  | 0, _ => by simp [smN]
  | k + 1, hk => by
    have ih := smN_le h k (by omega)
    have := h.r k (by omega)
    simp only [smN]; omega
theorem fsN_len (S : List Int) (k : Nat) : (fsN S k).length = k := by simp [fsN]
theorem fsL_len (S : List Int) : (fsL S).length = S.length := fsN_len _ _
theorem fsN_succ (S : List Int) (k : Nat) : fsN S (k + 1) = fsN S k ++ [smN S k] := by unfold fsN; rw [List.range_succ, List.map_append]; rfl
theorem ix_fs {S : List Int} {k : Nat} (hk : k < S.length) : ix (fsL S) k = smN S k := by unfold fsL fsN ix; simp [List.getD, hk]
theorem gvN_len {S : List Int} {l : List Asg} {k : Nat} (hk : k ≤ l.length) : (gvN S l k).length = k := by simp [gvN]; omega
theorem gvN_succ {S : List Int} {l : List Asg} {k : Nat} (hk : k < l.length) : gvN S l (k + 1) = gvN S l k ++ [smN S (vr l k) + (asg l k).x] := by
  unfold gvN; rw [take_asg hk, List.map_append]; rfl
theorem gvN_all (S : List Int) (l : List Asg) : gvN S l l.length = gvL S l := by unfold gvN gvL; rw [List.take_length]
theorem gvL_len (S : List Int) (l : List Asg) : (gvL S l).length = l.length := by simp [gvL]
theorem otN_succ {S : List Int} {l : List Asg} {k : Nat} (hk : k < l.length) : otN S l (k + 1) = otN S l k ++ otA S (asg l k) := by
  unfold otN; rw [take_asg hk, List.flatMap_append]; simp
theorem otN_all (S : List Int) (l : List Asg) : otN S l l.length = otL S l := by unfold otN otL; rw [List.take_length]
theorem ot1_succ (S : List Int) (a : Asg) (n : Nat) : ot1 S a (n + 1) = if ((n : Nat) : Int) ≠ a.x then ot1 S a n ++ [smN S a.v.toNat + (n : Int)] else ot1 S a n := by
  unfold ot1
  rw [List.range_succ, List.filter_append, List.map_append]
  by_cases h : ((n : Nat) : Int) = a.x
  · simp [h]
  · simp [h]
theorem ot1_len (S : List Int) (a : Asg) (n : Nat) : (ot1 S a n).length ≤ n := by
  unfold ot1; rw [List.length_map]; exact Nat.le_trans (List.length_filter_le _ _) (by simp)
theorem up_le {S : List Int} {l : List Asg} (h : AsOk S l) : ∀ k, k < l.length → k ≤ vr l k
  | 0, _ => by omega
  | k + 1, hk => by have := up_le h k (by omega); have := h.up k hk; omega
theorem as_len {S : List Int} {l : List Asg} (h : AsOk S l) : l.length ≤ S.length := by
  rcases Nat.eq_zero_or_pos l.length with e | e
  · omega
  · have h1 := up_le h (l.length - 1) (by omega)
    have h2 := h.lt (l.length - 1) (by omega)
    omega
theorem otN_len {S : List Int} (hz : SzOk S) {l : List Asg} (h : AsOk S l) : ∀ k, k ≤ l.length → (otN S l k).length ≤ 6 * k
  | 0, _ => by simp [otN]
  | k + 1, hk => by
    have ih := otN_len hz h k (by omega)
    rw [otN_succ (by omega), List.length_append]
    have h1 := ot1_len S (asg l k) (ix S (asg l k).v.toNat).toNat
    have h2 := hz.r _ (h.lt k (by omega))
    unfold vr at h2
    unfold otA
    omega

/-- firstFacts leaves the list and the number of all facts. -/
def FfP (w : World) (S : List Int) (e : Ending) (w' : World) : Prop := ∃ a c, e = .returned (.tuple #[.slice a S.length c, .int .i64 (smN S S.length)]) ∧ Lst w' w'.heap.size a c (fsL S) ∧ Below w.heap.size w w'
end Go.Proofs.YtiaobanloakplaaDoor
end
