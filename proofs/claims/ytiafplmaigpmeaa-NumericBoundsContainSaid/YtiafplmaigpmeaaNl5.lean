/- The law NumericBoundsContain: the walk. -/
import Derived.Test.YtiafplmaigpmeaaNct
import Derived.Test.YtiafplmaigpmeaaNl4
import Derived.Deep.RegionWith
namespace Go.Proofs.Ytiafplmaigpmeaa
open Go.RowKit
set_option linter.unusedSimpArgs false
set_option linter.unusedVariables false
set_option maxRecDepth 100000

theorem have_two {G : Prop} {V wY : World} {g : Nat} {u v : Value} (hb : Below V.heap.size V wY) (h : Two V g u v) (k : Two wY g u v → G) : G := k (two_to h hb)
theorem own_l {w : World} {base : Nat} {a : Option Addr} {c : Nat} {l : List Int} (h : w.ownsRow base 3 1 (.slice a l.length c) l.length (l.map (Value.int .i64))) : Lst w w.heap.size a c l := by
  obtain ⟨a', c', e, hl, _⟩ := own_lst h
  cases e
  exact hl
theorem nap_in {x : NT} {s : Nat} {u : List Int} {op : Int} (hn : (nfF x).1 = 0) (h : Inb u (bdn x s)) (h0 : (napF x u op).1 = 0) : Inb (napL x u op) (bdn x (s + 1)) := by
  have hv := (nf_val hn).1
  unfold napL
  rw [if_pos h0]
  unfold napF at h0
  rw [if_neg (by simp [hn])] at h0
  split at h0
  · cases h0
  split at h0
  · cases h0
  rename_i h1 h2
  split at h0
  · rename_i h3; exact absurd h0 h3
  rename_i h3
  have h2 : inB op 0 ((x.ops.length : Int) - 1) = true := by simpa using h2
  obtain ⟨g0, g1⟩ := inB_iff.1 h2
  exact naf_in hv (by omega) h (by simpa using h3)
set_option maxHeartbeats 4000000 in
theorem contain_bad (hNv : NvC) (hNa : NaC) (hNs : NsC) (hNb : NbC) (x : NT) (a3 : Option Addr) (c3 : Nat) (plan : List Int) (w : World) (hX : NTIn w w.heap.size x) (h0 : (nbF x plan.length).1 ≠ 0) :
    Calls Try.prog 5 #[.agg #[.slice x.ai x.init.length x.ci, .slice x.ag x.goal.length x.cg, .slice x.ao x.ops.length x.co], .slice a3 plan.length c3] w fun e w' => e = .returned (.bool true) ∧ Below w.heap.size w w' := by
  have HX0 := Lib.hid (fun (W : World) (h : Below w.heap.size w W) => hX.to h h.size)
  have hP := Lib.hid (Alive.cons (nboxS w.heap.size x) (nbox_new w x 26) ((Alive.cons (belS w) (Below.refl _ w) (Alive.nil w)).to (al_b w (.cells #[.slice x.ai x.init.length x.ci, .slice x.ag x.goal.length x.cg, .slice x.ao x.ops.length x.co] 26))))
  have HNB := Lib.hid (fun (W : World) (h : NTIn W W.heap.size x) => hNb x plan.length W h)
  have hq2 : nbL x plan.length = [] := by unfold nbL; rw [if_neg h0]
  rw [hq2] at HNB
  have hne : ((nbF x plan.length).1 == 0) = false := by simpa using h0
  have hne2 : ((nbF x plan.length).1 != 0) = true := by simpa using h0
  clear hX h0 hq2
  go_enter Try.func5, Try.ntmps5
  go_wp2_with (first | (go_at_call 21; have hb0 := Lib.hid (show Below w.heap.size w _ from hP.out (belS w) (by simp)); (with_reducible refine (HNB.out _ (HX0.out _ hb0.out)).mono ?_); rintro e wB ⟨aA, cA, rfl, hl, hb⟩; have hP := Lib.hid (Alive.cons (twoS wB.heap.size (.int .i64 (nbF x plan.length).1) (.int .i64 (nbF x plan.length).2)) (two_new wB _ _ 28) ((Alive.cons (prlS aA cA []) hl (hP.out.to hb)).to (al_b _ _))); clear hl hb; obtain ⟨_, t0, t1, t2⟩ := (show NBox _ w.heap.size x from hP.out (nboxS w.heap.size x) (by simp)); obtain ⟨_, z0, z1, z2, z3⟩ := (show Two _ wB.heap.size _ _ from hP.out (twoS wB.heap.size (.int .i64 (nbF x plan.length).1) (.int .i64 (nbF x plan.length).2)) (by simp))) | (go_at_call 9; (with_reducible refine (counts_any hNv hNa hNs hNb _).mono ?_); rintro e wC ⟨rfl, hb⟩; have hP := Lib.hid (hP.out.to hb); clear hb; obtain ⟨_, t0, t1, t2⟩ := (show NBox _ w.heap.size x from hP.out (nboxS w.heap.size x) (by simp)); obtain ⟨_, z0, z1, z2, z3⟩ := (show Two _ wB.heap.size _ _ from hP.out (twoS wB.heap.size (.int .i64 (nbF x plan.length).1) (.int .i64 (nbF x plan.length).2)) (by simp))))
  go_ret
  exact ⟨rfl, hP.out (belS w) (by simp)⟩
set_option maxHeartbeats 8000000 in
theorem contain_in (hNv : NvC) (hNa : NaC) (hNs : NsC) (hNb : NbC) (x : NT) (a3 : Option Addr) (c3 : Nat) (plan : List Int) (w : World) (hX : NTIn w w.heap.size x) (hPl : Lst w w.heap.size a3 c3 plan) (hnf : (nfF x).1 = 0) (h60 : plan.length ≤ 60) (h0 : nbF x plan.length = (0, 0)) :
    Calls Try.prog 5 #[.agg #[.slice x.ai x.init.length x.ci, .slice x.ag x.goal.length x.cg, .slice x.ao x.ops.length x.co], .slice a3 plan.length c3] w fun e w' => e = .returned (.bool true) ∧ Below w.heap.size w w' := by
  have hv := (nf_val hnf).1
  have HV := Lib.hid hv
  have HNF := Lib.hid hnf
  have HX0 := Lib.hid (fun (W : World) (h : Below w.heap.size w W) => hX.to h h.size)
  have HP0 := Lib.hid (fun (W : World) (h : Below w.heap.size w W) => hPl.to h h.size)
  have hP := Lib.hid (Alive.cons (nboxS w.heap.size x) (nbox_new w x 26) ((Alive.cons (belS w) (Below.refl _ w) (Alive.nil w)).to (al_b w (.cells #[.slice x.ai x.init.length x.ci, .slice x.ag x.goal.length x.cg, .slice x.ao x.ops.length x.co] 26))))
  have HNB := Lib.hid (fun (W : World) (h : NTIn W W.heap.size x) => hNb x plan.length W h)
  have hq2 : nbL x plan.length = bdn x plan.length := by unfold nbL; rw [h0]; rfl
  rw [h0, hq2] at HNB
  have HLA := Lib.hid (show ∀ (k : Nat) (u : List Int), k ≤ plan.length → Inb u (bdn x k) → Inb u (bdn x plan.length) from fun k u hk h => by
    have := inb_mono hv h (plan.length - k)
    rwa [show k + (plan.length - k) = plan.length by omega] at this)
  have HLL := Lib.hid (bdn_ok hv plan.length).len
  generalize hla : bdn x plan.length = la at *
  have hn1 := hv.n1
  have hn8 := hv.n8
  clear hX hPl hnf h0 hq2 hla hv
  go_enter Try.func5, Try.ntmps5
  go_wp2_with (first | (go_at_call 21; have hb0 := Lib.hid (show Below w.heap.size w _ from hP.out (belS w) (by simp)); (with_reducible refine (HNB.out _ (HX0.out _ hb0.out)).mono ?_); rintro e wB ⟨aA, cA, rfl, hl, hb⟩; have hP := Lib.hid (Alive.cons (twoS wB.heap.size (.int .i64 0) (.int .i64 0)) (two_new wB _ _ 28) ((Alive.cons (prlS aA cA la) hl (hP.out.to hb)).to (al_b _ _))); clear hl hb; obtain ⟨_, t0, t1, t2⟩ := (show NBox _ w.heap.size x from hP.out (nboxS w.heap.size x) (by simp)); obtain ⟨_, z0, z1, z2, z3⟩ := (show Two _ wB.heap.size _ _ from hP.out (twoS wB.heap.size (.int .i64 0) (.int .i64 0)) (by simp))) | (go_at_call 9; (with_reducible refine (counts_any hNv hNa hNs hNb _).mono ?_); rintro e wC ⟨rfl, hb⟩; have hP := Lib.hid (hP.out.to hb); clear hb; obtain ⟨_, t0, t1, t2⟩ := (show NBox _ w.heap.size x from hP.out (nboxS w.heap.size x) (by simp)); obtain ⟨_, z0, z1, z2, z3⟩ := (show Two _ wB.heap.size _ _ from hP.out (twoS wB.heap.size (.int .i64 0) (.int .i64 0)) (by simp))))
  have hbw0 := Lib.hid (show Below w.heap.size w _ from hP.out (belS w) (by simp))
  have HI0 := Lib.hid (HX0.out _ hbw0.out).init
  go_loopw [7, 8] (fun vv i wr => ∃ (k : Nat) (u : List Int) (a : Option Addr) (c : Nat), k ≤ plan.length ∧ i = .int .i64 k ∧ vv = .slice a u.length c ∧ Inb u (bdn x k) ∧ Lst wr wr.heap.size a c u ∧ Alive [twoS wB.heap.size (.int .i64 0) (.int .i64 0), prlS aA cA la, nboxS w.heap.size x, belS w] wr) (fun _ i _ => plan.length - (intOf i).toNat)
  case atStart => exact ⟨0, x.init, x.ai, x.ci, by omega, rfl, rfl, inb_init HV.out, HI0.out, hP.out⟩
  case round =>
    obtain ⟨k, u, a, c, hk, rfl, rfl, hin, hlu, hal⟩ := hrel
    have HIN := Lib.hid hin
    have hLu := Lib.hid hlu
    have hP := Lib.hid hal
    clear hin hlu hal
    by_cases hlt : k < plan.length
    case neg =>
      obtain rfl : k = plan.length := by omega
      have hge : ¬ ((plan.length : Int) < plan.length) := by omega
      have hul := HLA.out _ _ (Nat.le_refl _) HIN.out
      go_wp2
      have HUL := Lib.hid hul
      have HAL2 := Lib.hid (fun V h => hP.out.to (W' := V) h)
      have HLV := Lib.hid (fun (V : World) (h : Below wr.heap.size wr V) => hLu.out.to h h.size)
      have HBD := Lib.hid (fun (md : Nat) => belowN (Below.refl wr.heap.size wr) md)
      have hlen2 : ((la.length : Int) != (u.length : Int)) = false := by have := HUL.out.len; simp; omega
      go_loopw [11] (fun i wz => ∃ k : Nat, k ≤ u.length ∧ i = .int .i64 k ∧ ∃ md, wz = wr.drewN md) (fun i _ => u.length - (intOf i).toNat)
      case atStart => exact ⟨0, by omega, rfl, 0, rfl⟩
      case round =>
        obtain ⟨k, hk, rfl, md, hw9⟩ := hrel
        have hbr := HBD.out md
        rw [← hw9] at hbr
        have hP := Lib.hid (HAL2.out wr hbr)
        have hLu := Lib.hid (HLV.out wr hbr)
        have HW9 := Lib.hid hw9
        clear hw9 hbr
        by_cases hlt9 : k < u.length
        case neg =>
          have hge : ¬ ((k : Int) < u.length) := by omega
          go_wp2
          go_ret
          exact ⟨rfl, hP.out (belS w) (by simp)⟩
        case pos =>
          have hlt2 : k < la.length := by have := HUL.out.len; omega
          obtain ⟨ga, oa, ea, _, p0, p1⟩ := (show PrL _ _ aA cA la from hP.out (prlS aA cA la) (by simp)).at_ hlt2
          obtain ⟨gu, ou, eu, _, i0⟩ := hLu.out.nums.at_ hlt9
          subst ea eu
          have d1 : decide (ix u k < (prx la k).1) = false := decide_eq_false (by have := HUL.out.lo k hlt2; omega)
          have d2 : decide ((prx la k).2 < ix u k) = false := decide_eq_false (by have := HUL.out.hi k hlt2; omega)
          have hwk : IntKind.i64.wrap ((k : Int) + 1) = (k : Int) + 1 := IntWalk.i64_in _ (by have := hlt9; have := HUL.out.len; have := HLL.out; omega)
          have hkl : (k : Int) < (la.length : Int) := by omega
          have hku : (k : Int) < (u.length : Int) := by omega
          go_wp2
          go_quiet (fail)
          go_wp2
          go_roundw
          case rel => exact ⟨k + 1, by omega, by go_num, _, by rw [HW9.out, World.drewN_drewN]⟩
          case measure => simp [intOf]; omega
    case pos =>
      have hbw := (show Below w.heap.size w wr from hP.out (belS w) (by simp))
      obtain ⟨b, o, e3, hbl, hc0⟩ := (HP0.out _ hbw).nums.at_ hlt
      subst e3
      have hul1 : 1 ≤ u.length := by have := HIN.out.len; have := (bdn_ok HV.out k).len; omega
      have haz : a = none → c = 0 := fun e => by
        obtain ⟨b9, o9, e9, _⟩ := hLu.out.nums (by omega)
        rw [e] at e9
        cases e9
      generalize hop : ix plan k = op at *
      have HNA := Lib.hid (fun (W : World) (h : NTIn W W.heap.size x) (h2 : Lst W W.heap.size a c u) => hNa x a c u op W h h2 haz)
      have HNI := Lib.hid (nap_in (op := op) HNF.out HIN.out)
      generalize napF x u op = fa at *
      generalize napL x u op = lw at *
      have HAL := Lib.hid (fun V h => hP.out.to (W' := V) h)
      have HLU := Lib.hid (fun (V : World) (h : Below wr.heap.size wr V) => hLu.out.to h h.size)
      have HC0 := Lib.hid hc0
      have HBL := Lib.hid hbl
      have hww := Below.refl wr.heap.size wr
      have hwk : IntKind.i64.wrap ((k : Int) + 1) = (k : Int) + 1 := IntWalk.i64_in _ (by omega)
      obtain ⟨_, t0, t1, t2⟩ := (show NBox _ w.heap.size x from hP.out (nboxS w.heap.size x) (by simp))
      have hlw := (show NBox _ w.heap.size x from hP.out (nboxS w.heap.size x) (by simp)).lt
      clear haz hbw
      go_wp2
      go_cut [9, 10] from 41 to 52 (fun y g wx => ∃ gb ay cy, y = .slice ay lw.length cy ∧ g = .pointer (some ⟨gb, 0, none⟩) ∧ Below wr.heap.size wr wx ∧ Two wx gb (.int .i64 fa.1) (.int .i64 fa.2) ∧ Lst wx wx.heap.size ay cy lw)
      case first =>
        go_region_with (first | (go_at_call 18; (with_reducible refine (HNA.out _ ?_ ?_).mono ?_); (exact HX0.out _ (show Below w.heap.size w _ from HAL.out _ (by (repeat' (first | (with_reducible assumption) | (with_reducible exact Below.refl _ _) | (with_reducible refine belowN ?_ _) | (with_reducible refine Below.alloc ?_ ?_ _) | (with_reducible refine Below.drew ?_) | (with_reducible refine Below.setCell ?_ ?_ _) | go_size))) (belS w) (by simp))); (exact HLU.out _ (by (repeat' (first | (with_reducible assumption) | (with_reducible exact Below.refl _ _) | (with_reducible refine belowN ?_ _) | (with_reducible refine Below.alloc ?_ ?_ _) | (with_reducible refine Below.drew ?_) | (with_reducible refine Below.setCell ?_ ?_ _) | go_size)))); rintro e wY ⟨vY, rfl, ho, hb⟩; obtain ⟨ay, cy, rfl, _⟩ := own_lst ho; have hbU : Below wr.heap.size wr wY := bel_up (by (repeat' (first | (with_reducible assumption) | (with_reducible exact Below.refl _ _) | (with_reducible refine belowN ?_ _) | (with_reducible refine Below.alloc ?_ ?_ _) | (with_reducible refine Below.drew ?_) | (with_reducible refine Below.setCell ?_ ?_ _) | go_size))) hb; (first | (refine have_two (g := wr.heap.size) (u := .int .i64 0) (v := .int .i64 0) hb ?_ (fun hz => ?_); (first | (exact two_new _ _ _ _) | (exact two1 (two_new _ _ _ _)) | (exact two1 (two1 (two_new _ _ _ _)))); have HZ := Lib.hid hz; obtain ⟨_, z0, z1, z2, z3⟩ := hz) | skip); have HFS := Lib.hid ho; have HBY := Lib.hid hbU; clear ho hb hbU))
        all_goals
          go_wp2_with fail
          go_meet
          first
            | exact ⟨wY.heap.size, ay, cy, rfl, rfl, HBY.out.alloc HBY.out.size _, two_new _ _ _ _, own_l (own_to HFS.out (al_b _ _))⟩
            | exact ⟨wr.heap.size, ay, cy, rfl, rfl, (HBY.out.setCell (Nat.le_refl _) _).setCell (Nat.le_refl _) _, HZ.out.set _ _, own_l (ownsRow_setCell_below (ownsRow_setCell_below HFS.out (by simp) _) (by simp) _)⟩
      case rest =>
        rename World => wx
        obtain ⟨gb, ay, cy, rfl, rfl, hbU, htw, hlw2⟩ := hcut
        have hP := Lib.hid (HAL.out _ hbU)
        have hLu := Lib.hid (HLU.out _ hbU)
        have HLW := Lib.hid hlw2
        have htw2 := htw
        obtain ⟨_, y0, y1, _, _⟩ := htw2
        clear hbU htw hlw2 t0 t1 t2
        by_cases h0 : fa.1 = 0
        case pos =>
          have hq : (fa.1 != 0) = false := by simpa using h0
          have hq2 : (fa.1 == 0) = true := by simpa using h0
          have HNX := Lib.hid (HNI.out h0)
          clear h0
          go_wp2
          go_roundw
          case rel => exact ⟨k + 1, lw, ay, cy, by omega, by go_num, rfl, HNX.out, HLW.out, hP.out⟩
          case measure => simp [intOf]; omega
        case neg =>
          have hq : (fa.1 != 0) = true := by simpa using h0
          have hq2 : (fa.1 == 0) = false := by simpa using h0
          have hul := HLA.out _ _ hk HIN.out
          clear h0
          go_wp2
          have HUL := Lib.hid hul
          have HAL2 := Lib.hid (fun V h => hP.out.to (W' := V) h)
          have HLV := Lib.hid (fun (V : World) (h : Below wx.heap.size wx V) => hLu.out.to h h.size)
          have HBD := Lib.hid (fun (md : Nat) => belowN (Below.refl wx.heap.size wx) md)
          have hlen2 : ((la.length : Int) != (u.length : Int)) = false := by have := HUL.out.len; simp; omega
          go_loopw [11] (fun i wz => ∃ k : Nat, k ≤ u.length ∧ i = .int .i64 k ∧ ∃ md, wz = wx.drewN md) (fun i _ => u.length - (intOf i).toNat)
          case atStart => exact ⟨0, by omega, rfl, 0, rfl⟩
          case round =>
            obtain ⟨k, hk, rfl, md, hw9⟩ := hrel
            have hbr := HBD.out md
            rw [← hw9] at hbr
            have hP := Lib.hid (HAL2.out wr hbr)
            have hLu := Lib.hid (HLV.out wr hbr)
            have HW9 := Lib.hid hw9
            clear hw9 hbr
            by_cases hlt9 : k < u.length
            case neg =>
              have hge : ¬ ((k : Int) < u.length) := by omega
              go_wp2
              go_ret
              exact ⟨rfl, hP.out (belS w) (by simp)⟩
            case pos =>
              have hlt2 : k < la.length := by have := HUL.out.len; omega
              obtain ⟨ga, oa, ea, _, p0, p1⟩ := (show PrL _ _ aA cA la from hP.out (prlS aA cA la) (by simp)).at_ hlt2
              obtain ⟨gu, ou, eu, _, i0⟩ := hLu.out.nums.at_ hlt9
              subst ea eu
              have d1 : decide (ix u k < (prx la k).1) = false := decide_eq_false (by have := HUL.out.lo k hlt2; omega)
              have d2 : decide ((prx la k).2 < ix u k) = false := decide_eq_false (by have := HUL.out.hi k hlt2; omega)
              have hwk : IntKind.i64.wrap ((k : Int) + 1) = (k : Int) + 1 := IntWalk.i64_in _ (by have := hlt9; have := HUL.out.len; have := HLL.out; omega)
              have hkl : (k : Int) < (la.length : Int) := by omega
              have hku : (k : Int) < (u.length : Int) := by omega
              go_wp2
              go_quiet (fail)
              go_wp2
              go_roundw
              case rel => exact ⟨k + 1, by omega, by go_num, _, by rw [HW9.out, World.drewN_drewN]⟩
              case measure => simp [intOf]; omega
theorem contain_any (hNv : NvC) (hNa : NaC) (hNs : NsC) (hNb : NbC) (x : NT) (a3 : Option Addr) (c3 : Nat) (plan : List Int) (w : World) (hX : NTIn w w.heap.size x) (hPl : Lst w w.heap.size a3 c3 plan) :
    Calls Try.prog 5 #[.agg #[.slice x.ai x.init.length x.ci, .slice x.ag x.goal.length x.cg, .slice x.ao x.ops.length x.co], .slice a3 plan.length c3] w fun e w' => e = .returned (.bool true) ∧ Below w.heap.size w w' := by
  by_cases h0 : (nbF x plan.length).1 = 0
  · have hnf : (nfF x).1 = 0 := by
      by_cases h : (nfF x).1 = 0
      · exact h
      · unfold nbF at h0
        rw [if_pos h] at h0
        exact absurd h0 h
    have hin : inB (plan.length : Int) 0 60 = true := by
      cases h : inB (plan.length : Int) 0 60
      · unfold nbF at h0
        rw [if_neg (by simp [hnf]), h] at h0
        exact absurd h0 (by simp)
      · rfl
    have hq : nbF x plan.length = (0, 0) := by unfold nbF; rw [if_neg (by simp [hnf]), hin]; rfl
    have h60 := inB_iff.1 hin
    exact contain_in hNv hNa hNs hNb x a3 c3 plan w hX hPl hnf (by omega) hq
  · exact contain_bad hNv hNa hNs hNb x a3 c3 plan w hX h0
end Go.Proofs.Ytiafplmaigpmeaa
