/- The law NumericBoundsGrow: the walk. -/
import Derived.Test.YtiafplmaigpmeaaNl1
namespace Go.Proofs.Ytiafplmaigpmeaa
open Go.RowKit
set_option linter.unusedSimpArgs false
set_option linter.unusedVariables false
set_option maxRecDepth 100000

/-- The intervals w contain the intervals u. -/
structure Wid (u w : List (Int × Int)) : Prop where
  len : w.length = u.length
  lo : ∀ k, k < u.length → (prx w k).1 ≤ (prx u k).1
  hi : ∀ k, k < u.length → (prx u k).2 ≤ (prx w k).2
theorem Wid.refl (u : List (Int × Int)) : Wid u u := ⟨rfl, fun _ _ => Int.le_refl _, fun _ _ => Int.le_refl _⟩
theorem Wid.trans {u v w : List (Int × Int)} (h : Wid u v) (h2 : Wid v w) : Wid u w :=
  ⟨h2.len.trans h.len, fun k hk => Int.le_trans (h2.lo k (by rw [h.len]; exact hk)) (h.lo k hk), fun k hk => Int.le_trans (h.hi k hk) (h2.hi k (by rw [h.len]; exact hk))⟩
theorem updC_wid {n : Nat} {b w : List (Int × Int)} {c : Chg} (hw : BOk n w) : Wid w (updC b w c) := by
  refine ⟨by simp [updC], fun k hk => ?_, fun k hk => ?_⟩
  all_goals
    have h1 := hw.lo k hk
    have h2 := hw.hi k hk
    unfold updC
    by_cases hm : c.v.toNat < w.length
    · rw [prx_set hm]
      split
      · rename_i e
        rw [← e]
        unfold up1
        simp only
        omega
      · exact Int.le_refl _
    · rw [List.set_eq_of_length_le (by omega)]
      exact Int.le_refl _
theorem chK_wid {n : Nat} {b w : List (Int × Int)} {ch : List Chg} (hw : BOk n w) : ∀ j, Wid w (chK b ch w j)
  | 0 => Wid.refl _
  | j + 1 => (chK_wid hw j).trans (updC_wid (chK_ok hw j))
theorem opK_wid {n : Nat} {x : NT} {b : List (Int × Int)} (hb : BOk n b) : ∀ k, Wid b (opK x b k)
  | 0 => Wid.refl _
  | k + 1 => by
    rw [opK]
    split
    · exact (opK_wid hb k).trans (chK_wid (opK_ok hb k) _)
    · exact opK_wid hb k
theorem bdn_wid {x : NT} (hv : NVal x) (s : Nat) : Wid (bdn x s) (bdn x (s + 1)) := opK_wid (bdn_ok hv s) _
theorem bdn_init {x : NT} (hv : NVal x) : ∀ s k, k < x.init.length → (prx (bdn x s) k).1 ≤ ix x.init k ∧ ix x.init k ≤ (prx (bdn x s) k).2
  | 0, k, hk => by
    have : prx (bdn x 0) k = (ix x.init k, ix x.init k) := by simp [bdn, prx, ix, List.getD, hk]
    rw [this]
    exact ⟨Int.le_refl _, Int.le_refl _⟩
  | s + 1, k, hk => by
    have h := bdn_init hv s k hk
    have hw := bdn_wid hv s
    have hl : k < (bdn x s).length := by rw [(bdn_ok hv s).len]; exact hk
    exact ⟨Int.le_trans (hw.lo k hl) h.1, Int.le_trans h.2 (hw.hi k hl)⟩
def nboxS (g : Nat) (x : NT) : SP := ⟨fun W => NBox W g x, fun _ _ hb h => h.to hb h.lt⟩
set_option maxHeartbeats 4000000 in
theorem bgrow_bad (hNv : NvC) (hNa : NaC) (hNs : NsC) (hNb : NbC) (x : NT) (n : Int) (w : World) (hX : NTIn w w.heap.size x) (h0 : (nbF x n).1 ≠ 0) :
    Calls Try.prog 6 #[.agg #[.slice x.ai x.init.length x.ci, .slice x.ag x.goal.length x.cg, .slice x.ao x.ops.length x.co], .int .i64 n] w fun e w' => e = .returned (.bool true) ∧ Below w.heap.size w w' := by
  have HX0 := Lib.hid (fun (W : World) (h : Below w.heap.size w W) => hX.to h h.size)
  have hP := Lib.hid (Alive.cons (nboxS w.heap.size x) (nbox_new w x 26) ((Alive.cons (belS w) (Below.refl _ w) (Alive.nil w)).to (al_b w (.cells #[.slice x.ai x.init.length x.ci, .slice x.ag x.goal.length x.cg, .slice x.ao x.ops.length x.co] 26))))
  have HNB := Lib.hid (fun (W : World) (h : NTIn W W.heap.size x) => hNb x n W h)
  have hq2 : nbL x n = [] := by unfold nbL; rw [if_neg h0]
  rw [hq2] at HNB
  have hne : ((nbF x n).1 == 0) = false := by simpa using h0
  have hne2 : ((nbF x n).1 != 0) = true := by simpa using h0
  clear hX h0 hq2
  go_enter Try.func6, Try.ntmps6
  go_wp2_with (first | (go_at_call 21; have hb0 := Lib.hid (show Below w.heap.size w _ from hP.out (belS w) (by simp)); (with_reducible refine (HNB.out _ (HX0.out _ hb0.out)).mono ?_); rintro e wB ⟨aA, cA, rfl, hl, hb⟩; have hP := Lib.hid (Alive.cons (twoS wB.heap.size (.int .i64 (nbF x n).1) (.int .i64 (nbF x n).2)) (two_new wB _ _ 28) ((Alive.cons (prlS aA cA ([] : List (Int × Int))) hl (hP.out.to hb)).to (al_b _ _))); clear hl hb; obtain ⟨_, t0, t1, t2⟩ := (show NBox _ w.heap.size x from hP.out (nboxS w.heap.size x) (by simp)); obtain ⟨_, z0, z1, z2, z3⟩ := (show Two _ wB.heap.size _ _ from hP.out (twoS wB.heap.size (.int .i64 (nbF x n).1) (.int .i64 (nbF x n).2)) (by simp))) | (go_at_call 9; (with_reducible refine (counts_any hNv hNa hNs hNb _).mono ?_); rintro e wC ⟨rfl, hb⟩; have hP := Lib.hid (hP.out.to hb); clear hb; obtain ⟨_, t0, t1, t2⟩ := (show NBox _ w.heap.size x from hP.out (nboxS w.heap.size x) (by simp)); obtain ⟨_, z0, z1, z2, z3⟩ := (show Two _ wB.heap.size _ _ from hP.out (twoS wB.heap.size (.int .i64 (nbF x n).1) (.int .i64 (nbF x n).2)) (by simp))))
  go_ret
  exact ⟨rfl, hP.out (belS w) (by simp)⟩
set_option maxHeartbeats 4000000 in
theorem bgrow_60 (hNv : NvC) (hNa : NaC) (hNs : NsC) (hNb : NbC) (x : NT) (w : World) (hX : NTIn w w.heap.size x) (h0 : nbF x 60 = (0, 0)) :
    Calls Try.prog 6 #[.agg #[.slice x.ai x.init.length x.ci, .slice x.ag x.goal.length x.cg, .slice x.ao x.ops.length x.co], .int .i64 60] w fun e w' => e = .returned (.bool true) ∧ Below w.heap.size w w' := by
  have HX0 := Lib.hid (fun (W : World) (h : Below w.heap.size w W) => hX.to h h.size)
  have hP := Lib.hid (Alive.cons (nboxS w.heap.size x) (nbox_new w x 26) ((Alive.cons (belS w) (Below.refl _ w) (Alive.nil w)).to (al_b w (.cells #[.slice x.ai x.init.length x.ci, .slice x.ag x.goal.length x.cg, .slice x.ao x.ops.length x.co] 26))))
  have HNB := Lib.hid (fun (W : World) (h : NTIn W W.heap.size x) => hNb x 60 W h)
  obtain ⟨m, hm⟩ : ∃ m, bdn x m = nbL x 60 := ⟨60, by unfold nbL; rw [h0]; rfl⟩
  rw [h0, ← hm] at HNB
  clear hX h0 hm
  go_enter Try.func6, Try.ntmps6
  go_wp2_with (first | (go_at_call 21; have hb0 := Lib.hid (show Below w.heap.size w _ from hP.out (belS w) (by simp)); (with_reducible refine (HNB.out _ (HX0.out _ hb0.out)).mono ?_); rintro e wB ⟨aA, cA, rfl, hl, hb⟩; have hP := Lib.hid (Alive.cons (twoS wB.heap.size (.int .i64 0) (.int .i64 0)) (two_new wB _ _ 28) ((Alive.cons (prlS aA cA (bdn x m)) hl (hP.out.to hb)).to (al_b _ _))); clear hl hb; obtain ⟨_, t0, t1, t2⟩ := (show NBox _ w.heap.size x from hP.out (nboxS w.heap.size x) (by simp)); obtain ⟨_, z0, z1, z2, z3⟩ := (show Two _ wB.heap.size _ _ from hP.out (twoS wB.heap.size (.int .i64 0) (.int .i64 0)) (by simp))) | (go_at_call 9; (with_reducible refine (counts_any hNv hNa hNs hNb _).mono ?_); rintro e wC ⟨rfl, hb⟩; have hP := Lib.hid (hP.out.to hb); clear hb; obtain ⟨_, t0, t1, t2⟩ := (show NBox _ w.heap.size x from hP.out (nboxS w.heap.size x) (by simp)); obtain ⟨_, z0, z1, z2, z3⟩ := (show Two _ wB.heap.size _ _ from hP.out (twoS wB.heap.size (.int .i64 0) (.int .i64 0)) (by simp))))
  go_ret
  exact ⟨rfl, hP.out (belS w) (by simp)⟩
set_option maxHeartbeats 4000000 in
theorem bgrow_in (hNv : NvC) (hNa : NaC) (hNs : NsC) (hNb : NbC) (x : NT) (hv : NVal x) (m : Nat) (hm60 : m < 60) (w : World) (hX : NTIn w w.heap.size x) (h0 : nbF x m = (0, 0)) (h1 : nbF x ((m : Int) + 1) = (0, 0)) :
    Calls Try.prog 6 #[.agg #[.slice x.ai x.init.length x.ci, .slice x.ag x.goal.length x.cg, .slice x.ao x.ops.length x.co], .int .i64 m] w fun e w' => e = .returned (.bool true) ∧ Below w.heap.size w w' := by
  have HX0 := Lib.hid (fun (W : World) (h : Below w.heap.size w W) => hX.to h h.size)
  have hP := Lib.hid (Alive.cons (nboxS w.heap.size x) (nbox_new w x 26) ((Alive.cons (belS w) (Below.refl _ w) (Alive.nil w)).to (al_b w (.cells #[.slice x.ai x.init.length x.ci, .slice x.ag x.goal.length x.cg, .slice x.ao x.ops.length x.co] 26))))
  have HNB := Lib.hid (fun (W : World) (h : NTIn W W.heap.size x) => hNb x m W h)
  have HNB2 := Lib.hid (fun (W : World) (h : NTIn W W.heap.size x) => hNb x ((m : Int) + 1) W h)
  have hq : nbL x m = bdn x m := by unfold nbL; rw [h0]; rfl
  have hq2 : nbL x ((m : Int) + 1) = bdn x (m + 1) := by unfold nbL; rw [h1]; rfl
  rw [h0, hq] at HNB
  rw [h1, hq2] at HNB2
  have hwm : IntKind.i64.wrap ((m : Int) + 1) = (m : Int) + 1 := IntWalk.i64_in _ (by omega)
  have h60 : ((m : Int) == 60) = false := by simp; omega
  have HIN := Lib.hid (bdn_init hv m)
  have HWD := Lib.hid (bdn_wid hv m)
  have hll := (bdn_ok hv m).len
  have hlb := (bdn_ok hv (m + 1)).len
  have hn8 := hv.n8
  generalize bdn x m = la at *
  generalize bdn x (m + 1) = lb at *
  have hle : ((la.length : Int) != (lb.length : Int)) = false := by simp; omega
  have hl8 : la.length ≤ 8 := by omega
  have HLL := Lib.hid hll
  have HLB := Lib.hid hlb
  clear hX h0 h1 hq hq2 hll hlb
  go_enter Try.func6, Try.ntmps6
  go_wp2_with (first | (have hG : ∃ q : Nat, q = wB.heap.size := ⟨_, rfl⟩; (go_at_call 21; have hb0 := Lib.hid (show Below w.heap.size w _ from hP.out (belS w) (by simp)); (with_reducible refine (HNB2.out _ (HX0.out _ hb0.out)).mono ?_); rintro e wG ⟨aG, cG, rfl, hl, hb⟩; have hP := Lib.hid (Alive.cons (twoS wG.heap.size (.int .i64 0) (.int .i64 0)) (two_new wG _ _ 28) ((Alive.cons (prlS aG cG lb) hl (hP.out.to hb)).to (al_b _ _))); clear hl hb; obtain ⟨_, t0, t1, t2⟩ := (show NBox _ w.heap.size x from hP.out (nboxS w.heap.size x) (by simp)); obtain ⟨_, z0, z1, z2, z3⟩ := (show Two _ wB.heap.size _ _ from hP.out (twoS wB.heap.size (.int .i64 0) (.int .i64 0)) (by simp)); obtain ⟨_, y0, y1, y2, y3⟩ := (show Two _ wG.heap.size _ _ from hP.out (twoS wG.heap.size (.int .i64 0) (.int .i64 0)) (by simp)))) | (go_at_call 21; have hb0 := Lib.hid (show Below w.heap.size w _ from hP.out (belS w) (by simp)); (with_reducible refine (HNB.out _ (HX0.out _ hb0.out)).mono ?_); rintro e wB ⟨aA, cA, rfl, hl, hb⟩; have hP := Lib.hid (Alive.cons (twoS wB.heap.size (.int .i64 0) (.int .i64 0)) (two_new wB _ _ 28) ((Alive.cons (prlS aA cA la) hl (hP.out.to hb)).to (al_b _ _))); clear hl hb; obtain ⟨_, t0, t1, t2⟩ := (show NBox _ w.heap.size x from hP.out (nboxS w.heap.size x) (by simp)); obtain ⟨_, z0, z1, z2, z3⟩ := (show Two _ wB.heap.size _ _ from hP.out (twoS wB.heap.size (.int .i64 0) (.int .i64 0)) (by simp))) | (go_at_call 9; (with_reducible refine (counts_any hNv hNa hNs hNb _).mono ?_); rintro e wC ⟨rfl, hb⟩; have hP := Lib.hid (hP.out.to hb); clear hb; obtain ⟨_, t0, t1, t2⟩ := (show NBox _ w.heap.size x from hP.out (nboxS w.heap.size x) (by simp)); obtain ⟨_, z0, z1, z2, z3⟩ := (show Two _ wB.heap.size _ _ from hP.out (twoS wB.heap.size (.int .i64 0) (.int .i64 0)) (by simp))))
  have HAL := Lib.hid (fun V h => hP.out.to (W' := V) h)
  go_loopw [9] (fun i wr => ∃ k : Nat, k ≤ la.length ∧ i = .int .i64 k ∧ ∃ md, wr = (wG.alloc (.cells #[.int .i64 0, .int .i64 0] 28)).drewN md) (fun i _ => la.length - (intOf i).toNat)
  case atStart => exact ⟨0, by omega, rfl, 0, rfl⟩
  case round =>
    obtain ⟨k, hk, rfl, md, hw9⟩ := hrel
    have hbr : Below (wG.alloc (.cells #[.int .i64 0, .int .i64 0] 28)).heap.size (wG.alloc (.cells #[.int .i64 0, .int .i64 0] 28)) wr := by rw [hw9]; exact belowN (Below.refl _ _) _
    have hP := Lib.hid (HAL.out wr hbr)
    have HW9 := Lib.hid hw9
    clear hw9 hbr
    by_cases hlt : k < la.length
    case neg =>
      have hge : ¬ ((k : Int) < la.length) := by omega
      go_wp2
      go_ret
      exact ⟨rfl, hP.out (belS w) (by simp)⟩
    case pos =>
      have hlt2 : k < lb.length := by have := HLL.out; have := HLB.out; omega
      have hlt3 : k < x.init.length := by have := HLL.out; omega
      obtain ⟨ga, oa, ea, _, p0, p1⟩ := (show PrL _ _ aA cA la from hP.out (prlS aA cA la) (by simp)).at_ hlt
      obtain ⟨gb, ob, eb, _, q0, q1⟩ := (show PrL _ _ aG cG lb from hP.out (prlS aG cG lb) (by simp)).at_ hlt2
      obtain ⟨gi, oi, ei, _, i0⟩ := (HX0.out _ (show Below w.heap.size w _ from hP.out (belS w) (by simp))).init.nums.at_ hlt3
      obtain ⟨_, t0, t1, t2⟩ := (show NBox _ w.heap.size x from hP.out (nboxS w.heap.size x) (by simp))
      rw [ei] at t0
      have HEI := Lib.hid ei
      subst ea eb
      have d1 : decide ((prx la k).1 < (prx lb k).1) = false := decide_eq_false (by have := HWD.out.lo k hlt; omega)
      have d2 : decide ((prx lb k).2 < (prx la k).2) = false := decide_eq_false (by have := HWD.out.hi k hlt; omega)
      have d3 : decide (ix x.init k < (prx la k).1) = false := decide_eq_false (by have := (HIN.out k hlt3).1; omega)
      have d4 : decide ((prx la k).2 < ix x.init k) = false := decide_eq_false (by have := (HIN.out k hlt3).2; omega)
      have hwk : IntKind.i64.wrap ((k : Int) + 1) = (k : Int) + 1 := IntWalk.i64_in _ (by omega)
      have hkl : (k : Int) < (la.length : Int) := by omega
      have hkb : (k : Int) < (lb.length : Int) := by omega
      have hki : (k : Int) < (x.init.length : Int) := by omega
      clear ei
      go_wp2
      go_quiet (fail)
      go_wp2
      go_roundw
      case rel => exact ⟨k + 1, by omega, by go_num, _, by rw [HW9.out, World.drewN_drewN]⟩
      case measure => simp [intOf]; omega
theorem bgrow_any (hNv : NvC) (hNa : NaC) (hNs : NsC) (hNb : NbC) (x : NT) (n : Int) (w : World) (hX : NTIn w w.heap.size x) :
    Calls Try.prog 6 #[.agg #[.slice x.ai x.init.length x.ci, .slice x.ag x.goal.length x.cg, .slice x.ao x.ops.length x.co], .int .i64 n] w fun e w' => e = .returned (.bool true) ∧ Below w.heap.size w w' := by
  by_cases h0 : (nbF x n).1 = 0
  · have hnf : (nfF x).1 = 0 := by
      by_cases h : (nfF x).1 = 0
      · exact h
      · unfold nbF at h0
        rw [if_pos h] at h0
        exact absurd h0 h
    have hin : inB n 0 60 = true := by
      cases h : inB n 0 60
      · unfold nbF at h0
        rw [if_neg (by simp [hnf]), h] at h0
        exact absurd h0 (by simp)
      · rfl
    have hq : nbF x n = (0, 0) := by unfold nbF; rw [if_neg (by simp [hnf]), hin]; rfl
    obtain ⟨g0, g1⟩ := inB_iff.1 hin
    by_cases h60 : n = 60
    · subst h60
      exact bgrow_60 hNv hNa hNs hNb x w hX hq
    · obtain ⟨m, rfl⟩ := Int.eq_ofNat_of_zero_le g0
      refine bgrow_in hNv hNa hNs hNb x (nf_val hnf).1 m (by omega) w hX hq ?_
      unfold nbF
      rw [if_neg (by simp [hnf]), inB_iff.2 (by omega)]
      rfl
  · exact bgrow_bad hNv hNa hNs hNb x n w hX h0
end Go.Proofs.Ytiafplmaigpmeaa
