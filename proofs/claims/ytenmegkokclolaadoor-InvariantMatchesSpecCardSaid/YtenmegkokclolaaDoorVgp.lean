/- The reference's Group. -/
import Derived.Test.YtenmegkokclolaaDoorVpw
namespace Go.Proofs.YtenmegkokclolaaDoor
open Go.RowKit
set_option linter.unusedSimpArgs false
set_option linter.unusedVariables false
set_option maxRecDepth 100000

theorem cnt_init {x : Tsk} {g : List Int} (hi : IsS x.init 24) (hg : IsS g 24) : cntB x.init g ≤ 1 ↔ (metL x.init g).length ≤ 1 := by
  rw [cnt_am hi, met_am hi, am_symm]
theorem indB_init {x : Tsk} {g : List Int} (hi : IsS x.init 24) (hg : IsS g 24) (h : 1 < cntB x.init g) : indB x g = false := by
  unfold indB
  rw [decide_eq_false (fun h2 => by have := (cnt_init hi hg).2 h2; omega)]
  rfl
theorem indB_op {x : Tsk} {g : List Int} {k : Nat} (hk : k < x.ops.length) (h : brkB (opr x.ops k) g = true) : indB x g = false := by
  unfold indB
  rw [Bool.and_eq_false_iff]
  right
  rw [Bool.not_eq_false', List.any_eq_true]
  exact ⟨k, by simpa using hk, h⟩
theorem indB_all {x : Tsk} {g : List Int} (hi : IsS x.init 24) (hg : IsS g 24) (h : cntB x.init g ≤ 1) (h2 : ∀ k, k < x.ops.length → brkB (opr x.ops k) g = false) : indB x g = true :=
  (indB_iff hi).2 ⟨(met_am hi).1 ((cnt_init hi hg).1 h), h2⟩
set_option maxHeartbeats 4000000 in
theorem group_any (x : Tsk) (A : Option Addr) (c : Nat) (g : List Int) (w : World) (hX : TskIn w w.heap.size x) (hI : IsS x.init 24) (hO : ∀ k, k < x.ops.length → OpS (opr x.ops k) 24) (hg : IsS g 24) (hG : Lst w w.heap.size A c g) :
    Calls Tryd.prog 12 #[.agg #[.int .i64 x.n, .slice x.ai x.init.length x.ci, .slice x.ag x.goal.length x.cg, .slice x.ao x.ops.length x.co], .slice A g.length c] w fun e w' => e = .returned (.bool (indB x g)) ∧ Below w.heap.size w w' := by
  have hb1 : Below w.heap.size w (w.alloc (.cells #[.int .i64 x.n, .slice x.ai x.init.length x.ci, .slice x.ag x.goal.length x.cg, .slice x.ao x.ops.length x.co] 25)) := by go_grown
  have hX1 := hX.to hb1 hb1.size
  have hG1 := hG.to hb1 hb1.size
  have HX := Lib.hid (fun (W : World) (h : Below (w.alloc (.cells #[.int .i64 x.n, .slice x.ai x.init.length x.ci, .slice x.ag x.goal.length x.cg, .slice x.ao x.ops.length x.co] 25)).heap.size (w.alloc (.cells #[.int .i64 x.n, .slice x.ai x.init.length x.ci, .slice x.ag x.goal.length x.cg, .slice x.ao x.ops.length x.co] 25)) W) => hX1.to h h.size)
  have HG := Lib.hid (fun (W : World) (h : Below (w.alloc (.cells #[.int .i64 x.n, .slice x.ai x.init.length x.ci, .slice x.ag x.goal.length x.cg, .slice x.ao x.ops.length x.co] 25)).heap.size (w.alloc (.cells #[.int .i64 x.n, .slice x.ai x.init.length x.ci, .slice x.ag x.goal.length x.cg, .slice x.ao x.ops.length x.co] 25)) W) => hG1.to h h.size)
  have hT := tbox_new w x 25
  have HT := Lib.hid (fun (W : World) (h : Below (w.alloc (.cells #[.int .i64 x.n, .slice x.ai x.init.length x.ci, .slice x.ag x.goal.length x.cg, .slice x.ao x.ops.length x.co] 25)).heap.size (w.alloc (.cells #[.int .i64 x.n, .slice x.ai x.init.length x.ci, .slice x.ag x.goal.length x.cg, .slice x.ao x.ops.length x.co] 25)) W) => hT.to h hT.lt)
  have HBW := Lib.hid (fun (W : World) (h : Below (w.alloc (.cells #[.int .i64 x.n, .slice x.ai x.init.length x.ci, .slice x.ag x.goal.length x.cg, .slice x.ao x.ops.length x.co] 25)).heap.size (w.alloc (.cells #[.int .i64 x.n, .slice x.ai x.init.length x.ci, .slice x.ag x.goal.length x.cg, .slice x.ao x.ops.length x.co] 25)) W) => hb1.trans (h.mono hb1.size))
  have hil : x.init.length ≤ 24 := isS_len (n := 24) hI
  have hol := hX.len
  unfold maxLen at hol
  have HCN := Lib.hid (countIn_any x.ai A x.ci c x.init g _ hX1.init.nums hG1.nums (by omega) hG1.len)
  have HI := Lib.hid hI
  have HO := Lib.hid hO
  have HS := Lib.hid hg
  clear hX hX1 hG hG1 hT hb1 hI hO hg
  by_cases hc : 1 < cntB x.init g
  · have H := Lib.hid (indB_init HI.out HS.out hc)
    have d1 : decide ((1 : Int) < (cntB x.init g : Int)) = true := decide_eq_true (by omega)
    generalize cntB x.init g = cn at *
    go_enter Tryd.func12, Tryd.ntmps12
    go_wp2_with (go_at_call 17; (with_reducible refine HCN.out.mono ?_); rintro e w' ⟨rfl, rfl⟩)
    go_ret
    exact ⟨by rw [H.out]; rfl, HBW.out _ (Below.refl _ _)⟩
  have d1 : decide ((1 : Int) < (cntB x.init g : Int)) = false := decide_eq_false (by omega)
  have HC := Lib.hid hc
  clear hc
  have HC2 := Lib.hid (show cntB x.init g ≤ 1 by have := HC.out; omega)
  have HGD := Lib.hid (fun h => indB_all HI.out HS.out HC2.out h)
  clear HC HC2
  generalize cntB x.init g = cn at *
  go_enter Tryd.func12, Tryd.ntmps12
  go_wp2_with (go_at_call 17; (with_reducible refine HCN.out.mono ?_); rintro e w' ⟨rfl, rfl⟩)
  go_loopw [5] (fun i wr => ∃ k : Nat, k ≤ x.ops.length ∧ i = .int .i64 k ∧ Below (w.alloc (.cells #[.int .i64 x.n, .slice x.ai x.init.length x.ci, .slice x.ag x.goal.length x.cg, .slice x.ao x.ops.length x.co] 25)).heap.size (w.alloc (.cells #[.int .i64 x.n, .slice x.ai x.init.length x.ci, .slice x.ag x.goal.length x.cg, .slice x.ao x.ops.length x.co] 25)) wr ∧ ∀ j, j < k → brkB (opr x.ops j) g = false) (fun i _ => x.ops.length - (intOf i).toNat)
  case atStart => exact ⟨0, by omega, rfl, Below.refl _ _, by omega⟩
  case round =>
    obtain ⟨k, hk, rfl, hbw, hj⟩ := hrel
    have HJ := Lib.hid hj
    have HB := Lib.hid hbw
    clear hj hbw
    obtain ⟨_, t0, t1, t2, t3⟩ := HT.out _ HB.out
    by_cases hlt : k < x.ops.length
    case neg =>
      have hge : ¬ ((k : Int) < x.ops.length) := by omega
      have H := Lib.hid (HGD.out (fun j hj => HJ.out j (by omega)))
      go_wp2
      go_ret
      exact ⟨by rw [H.out]; rfl, HBW.out _ HB.out⟩
    obtain ⟨b, p, a1, a2, a3, c1, c2, c3, hao, hbl, ⟨q0, q1, q2, q3⟩, hf⟩ := (HX.out _ HB.out).ops.at_ hlt
    have hpr := preserved_any (opr x.ops k) g a1 a2 a3 A c1 c2 c3 c wr (HO.out k hlt) HS.out hf (HG.out _ HB.out)
    rw [prB_brk (HO.out k hlt) HS.out] at hpr
    rw [hao] at t3
    clear hf hao
    cases hbk : brkB (opr x.ops k) g
    · rw [hbk] at hpr
      have HPR := Lib.hid hpr
      have HK := Lib.hid hbk
      clear hpr hbk
      go_wp2_with (go_at_call 29; (with_reducible refine HPR.out.mono ?_); rintro e w2 ⟨rfl, hb2⟩; have HB2 := Lib.hid (HB.out.trans (hb2.mono HB.out.size)); clear hb2)
      go_roundw
      case rel => exact ⟨k + 1, by omega, by go_num, HB2.out, all_stepF HJ.out HK.out⟩
      case measure => simp [intOf]; omega
    · rw [hbk] at hpr
      have HPR := Lib.hid hpr
      have H := Lib.hid (indB_op hlt hbk)
      clear hpr hbk
      go_wp2_with (go_at_call 29; (with_reducible refine HPR.out.mono ?_); rintro e w2 ⟨rfl, hb2⟩; have HB2 := Lib.hid (HB.out.trans (hb2.mono HB.out.size)); clear hb2)
      go_ret
      exact ⟨by rw [H.out]; rfl, HBW.out _ HB2.out⟩
end Go.Proofs.YtenmegkokclolaaDoor
