/- The law StripsMatchesSpec: the walk where the state has no fault. -/
import Derived.Test.YtdgolaegbdadlaaDoorKma
import Derived.Deep.CutRange
namespace Go.Proofs.YtdgolaegbdadlaaDoor
open Go.RowKit
set_option linter.unusedSimpArgs false
set_option linter.unusedVariables false
set_option maxRecDepth 100000

def rgF (x : Tsk) (s : List Int) (m j : Nat) : Bool := hasB (opr x.ops m).pre j || (hasB s j && !hasB (opr x.ops m).add j)
theorem rgF_no {x : Tsk} {s : List Int} {m j : Nat} (h : rgF x s m j = false) : hasB (opr x.ops m).pre j = false ∧ (hasB s j = true → hasB (opr x.ops m).add j = true) := by
  unfold rgF at h
  rw [Bool.or_eq_false_iff] at h
  exact ⟨h.1, fun h2 => by rw [h2] at h; simpa using h.2⟩
theorem rgF_yes {x : Tsk} {s : List Int} {m j : Nat} (h : rgF x s m j = true) (h1 : hasB (opr x.ops m).pre j = false) : hasB s j = true ∧ hasB (opr x.ops m).add j = false := by
  unfold rgF at h
  rw [h1] at h
  simpa using h
theorem ck_out {x : Tsk} {s : List Int} {op : Int} (h : (stF x s).1 = 0) (ho : ¬ (0 ≤ op ∧ op < x.ops.length)) : ckF x s [op] = (3, -6) := by
  unfold ckF spF
  rw [if_neg (by simpa using h), if_neg (by simp), if_neg]
  intro hp
  exact ho (planB_at hp (k := 0) (by simp))
def apF (x : Tsk) (s : List Int) (k : Nat) : Bool := subB (opr x.ops k).pre s
theorem appM_good {x : Tsk} {s : List Int} (h : (stF x s).1 = 0) : facs x.ops.length (apF x s) = appM x s := by
  unfold appM
  rw [if_pos h]; rfl
set_option maxHeartbeats 8000000 in
theorem mspec_b (x : Tsk) (a2 : Option Addr) (c2 : Nat) (s : List Int) (op : Int) (w : World) (hX : TskIn w w.heap.size x) (hS : Lst w w.heap.size a2 c2 s) (hT : TabIn w) (hf : (stF x s).1 = 0) :
    Calls Tryd.prog 3 #[.agg #[.int .i64 x.n, .slice x.ai x.init.length x.ci, .slice x.ag x.goal.length x.cg, .slice x.ao x.ops.length x.co], .slice a2 s.length c2, .int .i64 op] w fun e w' => e = .returned (.bool true) ∧ Below w.heap.size w w' := by
  have HX0 := Lib.hid (fun (W : World) (h : Below w.heap.size w W) => hX.to h h.size); have HS0 := Lib.hid (fun (W : World) (h : Below w.heap.size w W) => hS.to h h.size); have HT0 := Lib.hid (fun (W : World) (h : Below w.heap.size w W) => hT.to h (Nat.le_refl _)); have hP := Lib.hid (Alive.cons (boxS w.heap.size x) (tbox_new w x 25) ((Alive.cons (tskS x) hX (Alive.cons (lstS a2 c2 s) hS (Alive.cons tabS hT (Alive.cons (belS w) (Below.refl _ w) (Alive.nil w))))).to ((Below.refl _ _).alloc (Nat.le_refl _) (.cells #[.int .i64 x.n, .slice x.ai x.init.length x.ci, .slice x.ag x.goal.length x.cg, .slice x.ao x.ops.length x.co] 25)))); clear hX hS hT
  have hfld := run_code
  have HF := Lib.hid hf
  have h00 := (stF_zero hf).1
  have HSf := Lib.hid (fun (W : World) (hX : TskIn W W.heap.size x) (hS : Lst W W.heap.size a2 c2 s) => (by
    have h := stateFault_any x a2 c2 s W hX hS
    rw [h00] at h
    exact h : Calls Tryd.prog 9 #[.agg #[.int .i64 x.n, .slice x.ai x.init.length x.ci, .slice x.ag x.goal.length x.cg, .slice x.ao x.ops.length x.co], .slice a2 s.length c2] W fun e w' => e = .returned (faultV (0, 0)) ∧ Below W.heap.size W w'))
  have HAm := Lib.hid (fun (W : World) (hX : TskIn W W.heap.size x) (hS : Lst W W.heap.size a2 c2 s) => (by
    have h := applicable_any x a2 c2 s W hX hS
    rw [h00] at h
    exact h : Calls Tryd.prog 13 #[.agg #[.int .i64 x.n, .slice x.ai x.init.length x.ci, .slice x.ag x.goal.length x.cg, .slice x.ao x.ops.length x.co], .slice a2 s.length c2] W (SlF W (0, 0) (appM x s))))
  have h40 := (stF_val hf).1.len
  have HAM := Lib.hid (appM_good hf)
  clear hf h00
  obtain ⟨i0, hi, hz0, hz1, hz2⟩ := info_parts info_int
  go_enter Tryd.func3, Tryd.ntmps3
  go_wp2_with (first | (go_at_call 9; have hTk := Lib.hid (show TskIn _ _ x from hP.out (tskS x) (by simp)); have hLs := Lib.hid (show Lst _ _ a2 c2 s from hP.out (lstS a2 c2 s) (by simp)); (with_reducible refine (HSf.out _ hTk.out hLs.out).mono ?_); rintro e wS ⟨rfl, hb⟩; have HWS := Lib.hid (show TBox wS w.heap.size x from (hP.out.to hb) (boxS w.heap.size x) (by simp)).lt; have hP := Lib.hid (Alive.cons (twoS wS.heap.size (.int .i64 0) (.int .i64 0)) (two_new wS _ _ 27) ((hP.out.to hb).to ((Below.refl _ _).alloc (Nat.le_refl _) _))); clear hb; obtain ⟨_, t0, t1, t2, t3⟩ := (show TBox _ _ x from hP.out (boxS w.heap.size x) (by simp))))
  generalize hU : wS.alloc (.cells #[.int .i64 0, .int .i64 0] 27) = U at hP t0 t1 t2 t3 ⊢; clear hU; have HAL := Lib.hid (fun (V : World) (h : Below U.heap.size U V) => hP.out.to h); have hUU := Below.refl U.heap.size U; have HSO := Lib.hid (fun (V : World) (h : Below U.heap.size U V) => (⟨(show TBox V w.heap.size x from HAL.out V h (boxS w.heap.size x) (by simp)).c0, (show TBox V w.heap.size x from HAL.out V h (boxS w.heap.size x) (by simp)).c1, (show TBox V w.heap.size x from HAL.out V h (boxS w.heap.size x) (by simp)).c2, (show TBox V w.heap.size x from HAL.out V h (boxS w.heap.size x) (by simp)).c3, h⟩ : V.cell? ⟨w.heap.size, 0, none⟩ = some (.int .i64 x.n) ∧ V.cell? ⟨w.heap.size, 1, none⟩ = some (.slice x.ai x.init.length x.ci) ∧ V.cell? ⟨w.heap.size, 2, none⟩ = some (.slice x.ag x.goal.length x.cg) ∧ V.cell? ⟨w.heap.size, 3, none⟩ = some (.slice x.ao x.ops.length x.co) ∧ Below U.heap.size U V)); clear hP
  go_region_held3 (fun V => V.cell? ⟨w.heap.size, 0, none⟩ = some (.int .i64 x.n) ∧ V.cell? ⟨w.heap.size, 1, none⟩ = some (.slice x.ai x.init.length x.ci) ∧ V.cell? ⟨w.heap.size, 2, none⟩ = some (.slice x.ag x.goal.length x.cg) ∧ V.cell? ⟨w.heap.size, 3, none⟩ = some (.slice x.ao x.ops.length x.co) ∧ Below U.heap.size U V) (first | (refine ⟨?_, ?_, ?_, ?_, ?_⟩ <;> assumption) | (exact HSO.out _ hUU.drew) | (exact HSO.out _ (bel_step (last5 (by assumption)) (by assumption)))) (first | (go_at_call 10; refine (acts_any _ ?_).mono ?_; (exact (show TabIn _ from HAL.out _ (last5 (by assumption)) tabS (by simp))); rintro e w' ⟨rfl, hb⟩) | (go_at_call 11; refine (validate_any x _ ?_).mono ?_; (exact (show TskIn _ _ x from HAL.out _ (last5 (by assumption)) (tskS x) (by simp))); rintro e w' ⟨rfl, hb⟩) | (go_at_call 12; refine (taskFault_any x _ ?_).mono ?_; (exact (show TskIn _ _ x from HAL.out _ (last5 (by assumption)) (tskS x) (by simp))); rintro e w' ⟨rfl, hb⟩))
  have hP := Lib.hid (HAL.out w' (last5 (by assumption)))
  clear HSO HAL hUU
  obtain ⟨_, t0, t1, t2, t3⟩ := (show TBox _ _ x from hP.out (boxS w.heap.size x) (by simp))
  obtain ⟨_, k0, k1, f0, f1⟩ := (show Two _ wS.heap.size _ _ from hP.out (twoS wS.heap.size (.int .i64 0) (.int .i64 0)) (by simp))
  go_wp2_with (first | (go_at_call 13; have hTk := Lib.hid (show TskIn _ _ x from hP.out (tskS x) (by simp)); have hLs := Lib.hid (show Lst _ _ a2 c2 s from hP.out (lstS a2 c2 s) (by simp)); (with_reducible refine (HAm.out _ hTk.out hLs.out).mono ?_); rintro e wA ⟨vA, rfl, hs, hb⟩; obtain ⟨aa, ca, rfl, hl⟩ := hs.set; have hP := Lib.hid (Alive.cons (twoS wA.heap.size (.int .i64 0) (.int .i64 0)) (two_new wA _ _ 27) ((Alive.cons (lstS aa ca (appM x s)) hl (hP.out.to hb)).to ((Below.refl _ _).alloc (Nat.le_refl _) _))); clear hl hs hb; obtain ⟨_, t0, t1, t2, t3⟩ := (show TBox _ _ x from hP.out (boxS w.heap.size x) (by simp))))
  generalize hU : wA.alloc (.cells #[.int .i64 0, .int .i64 0] 27) = U2 at hP t0 t1 t2 t3 ⊢
  clear hU k0 k1 f0 f1 t0 t1 t2 t3
  have HAL := Lib.hid (fun (V : World) (h : Below U2.heap.size U2 V) => hP.out.to h)
  clear hP
  go_loopw [10, 11] (fun v i wr => ∃ k : Nat, k ≤ x.ops.length ∧ i = .int .i64 k ∧ Below U2.heap.size U2 wr ∧ wr.ownsRow U2.heap.size 3 1 v (facs k (apF x s)).length ((facs k (apF x s)).map (Value.int .i64))) (fun _ i _ => x.ops.length - (intOf i).toNat)
  case atStart => exact ⟨0, by omega, rfl, Below.refl _ _, World.ownsRow_nil _ _ _ _⟩
  case round =>
    obtain ⟨k, hk, rfl, hbe, hown⟩ := hrel
    have hP := Lib.hid (HAL.out wr hbe)
    have HBE := Lib.hid hbe
    clear hbe
    obtain ⟨_, t0, t1, t2, t3⟩ := (show TBox _ _ x from hP.out (boxS w.heap.size x) (by simp))
    obtain ⟨_, k0, k1, f0, f1⟩ := (show Two _ wS.heap.size _ _ from hP.out (twoS wS.heap.size (.int .i64 0) (.int .i64 0)) (by simp))
    have hlen := facs_len k (apF x s)
    by_cases hlt : k < x.ops.length
    · cases hsub : apF x s k
      · have HQ := Lib.hid (facs_succ_no (n := k) (f := apF x s) hsub)
        go_wp2_with (first | (go_at_call 14; have hTk := Lib.hid (show TskIn _ _ x from hP.out (tskS x) (by simp)); have hLs := Lib.hid (show Lst _ _ a2 c2 s from hP.out (lstS a2 c2 s) (by simp)); (with_reducible refine (applies_any x a2 c2 s k hlt _ hTk.out hLs.out).mono ?_); rw [show subB (opr x.ops k).pre s = _ from hsub]; rintro e w6 ⟨rfl, hb6⟩; have HB6 := Lib.hid hb6; clear hb6))
        go_roundw
        case rel => exact ⟨k + 1, by omega, by go_num, bel_step HBE.out HB6.out, by rw [HQ.out]; exact own_to hown HB6.out⟩
        case measure => simp [intOf]; omega
      · have HQ := Lib.hid (facs_succ_yes (n := k) (f := apF x s) hsub)
        go_wp2_with (first
          | (go_at_call 14; have hTk := Lib.hid (show TskIn _ _ x from hP.out (tskS x) (by simp)); have hLs := Lib.hid (show Lst _ _ a2 c2 s from hP.out (lstS a2 c2 s) (by simp)); (with_reducible refine (applies_any x a2 c2 s k hlt _ hTk.out hLs.out).mono ?_); rw [show subB (opr x.ops k).pre s = _ from hsub]; rintro e w6 ⟨rfl, hb6⟩; have HB6 := Lib.hid hb6; clear hb6)
          | (at_builtin; refine wpList_append_own _ rfl _ _ 22 rfl U2.heap.size 3 i0 (.int .i64 0) 1 8 Tryd.underlying22 hi hz0 hz1 hz2 rfl (by decide) _ _ _ rfl ((own_to hown HB6.out).alloc _) ⟨w6.heap.size, 0, none⟩ 1 1 [.int .i64 k] rfl rfl (cell_one_new _ _ _) (by simp [Value.oneCell']) (by unfold maxLen; omega) (by omega) (by have := HBE.out.size; have := HB6.out.size; simp; omega) ?_))
        intro v' w7 hown7 hgrow _
        have HG := Lib.hid hgrow
        clear hgrow
        go_wp2
        go_roundw
        case rel =>
          refine ⟨k + 1, by omega, by go_num, ?_, ?_⟩
          · have h6 : Below U2.heap.size U2 (w6.alloc (.cells #[.int .i64 k] 3)) := (bel_step HBE.out HB6.out).alloc (bel_step HBE.out HB6.out).size _
            exact h6.grown HG.out h6.size (fun q hq => (hown.lt q hq).1)
          · rw [HQ.out]; simpa using hown7
        case measure => simp [intOf]; omega
    · obtain rfl : k = x.ops.length := by omega
      rw [HAM.out] at hown
      obtain ⟨aw, cw, rfl, hlw⟩ := (sliceOf_own hown).set
      have hP := Lib.hid (Alive.cons (lstS aw cw (appM x s)) hlw hP.out)
      clear hlw hown hlen
      obtain ⟨_, m0, m1, g0, g1⟩ := (show Two _ wA.heap.size _ _ from hP.out (twoS wA.heap.size (.int .i64 0) (.int .i64 0)) (by simp))
      by_cases hin : 0 ≤ op ∧ op < x.ops.length
      case neg =>
        have hi0 : inB op 0 ((x.ops.length : Int) - 1) = false := by
          unfold inB
          rw [decide_eq_false_iff_not]
          omega
        go_upto_region 15 with (first | (go_at_call 15; have hLa := Lib.hid (show Lst _ _ aa ca (appM x s) from hP.out (lstS aa ca (appM x s)) (by simp)); have hLw := Lib.hid (show Lst _ _ aw cw (appM x s) from hP.out (lstS aw cw (appM x s)) (by simp)); refine (ints_same aa aw ca cw _ _ rfl _ hLa.out hLw.out).mono ?_; rintro e wI ⟨rfl, hb⟩; have hP := Lib.hid (hP.out.to hb); clear hb; obtain ⟨_, t0, t1, t2, t3⟩ := (show TBox _ _ x from hP.out (boxS w.heap.size x) (by simp)); obtain ⟨_, k0, k1, f0, f1⟩ := (show Two _ wS.heap.size _ _ from hP.out (twoS wS.heap.size (.int .i64 0) (.int .i64 0)) (by simp))) | (go_at_call 16; refine (in_any _ _ _ _).mono ?_; rintro e w' ⟨rfl, rfl⟩) | (go_at_call 17; refine (at_any _ _ _).mono ?_; rintro e wT ⟨rfl, hb⟩; have hP := Lib.hid (hP.out.to hb); clear hb; obtain ⟨_, t0, t1, t2, t3⟩ := (show TBox _ _ x from hP.out (boxS w.heap.size x) (by simp)); obtain ⟨_, k0, k1, f0, f1⟩ := (show Two _ wS.heap.size _ _ from hP.out (twoS wS.heap.size (.int .i64 0) (.int .i64 0)) (by simp))))
        have hck : ckF x s [op] = (3, -6) := ck_out HF.out hin
        obtain ⟨e1, e2, e3, e4⟩ := ay_ck (x := x) (s := s) (op := op) (by rw [hck]; decide)
        rw [hck] at e1
        have HAp := Lib.hid (fun (W : World) (hX : TskIn W W.heap.size x) (hS : Lst W W.heap.size a2 c2 s) (hT : TabIn W) => (by
          have h := apply_any x a2 c2 s op W hX hS hT
          rw [e1, e2] at h
          exact h : Calls Tryd.prog 18 #[.agg #[.int .i64 x.n, .slice x.ai x.init.length x.ci, .slice x.ag x.goal.length x.cg, .slice x.ao x.ops.length x.co], .slice a2 s.length c2, .int .i64 op] W (SlF W (3, (-6)) ([] : List Int))))
        have HRe := Lib.hid (fun (W : World) (hX : TskIn W W.heap.size x) (hS : Lst W W.heap.size a2 c2 s) (hT : TabIn W) => (by
          have h := regress_any x a2 c2 s op W hX hS hT
          rw [hck, e3, e4] at h
          exact h : Calls Tryd.prog 20 #[.agg #[.int .i64 x.n, .slice x.ai x.init.length x.ci, .slice x.ag x.goal.length x.cg, .slice x.ao x.ops.length x.co], .slice a2 s.length c2, .int .i64 op] W (RegPost W (3, (-6)) false ([] : List Int))))
        have htw := (show Two wT wS.heap.size _ _ from hP.out (twoS wS.heap.size (.int .i64 0) (.int .i64 0)) (by simp)).set (.int .i64 3) (.int .i64 (-6))
        have hbx := ((show TBox wT w.heap.size x from hP.out (boxS w.heap.size x) (by simp)).far (p := ⟨wS.heap.size, 0, none⟩) (Nat.ne_of_gt HWS.out) (.int .i64 3)).far (p := ⟨wS.heap.size, 1, none⟩) (Nat.ne_of_gt HWS.out) (.int .i64 (-6))
        have hbel := ((show Below w.heap.size w wT from hP.out (belS w) (by simp)).setCell (p := ⟨wS.heap.size, 0, none⟩) (Nat.le_of_lt HWS.out) (.int .i64 3)).setCell (p := ⟨wS.heap.size, 1, none⟩) (Nat.le_of_lt HWS.out) (.int .i64 (-6))
        clear hP e1 e2 e3 e4 hck hin
        have hP := Lib.hid (Alive.cons (twoS wS.heap.size (.int .i64 3) (.int .i64 (-6))) htw (Alive.cons (boxS w.heap.size x) hbx (Alive.cons (tskS x) (HX0.out _ hbel) (Alive.cons (lstS a2 c2 s) (HS0.out _ hbel) (Alive.cons tabS (HT0.out _ hbel) (Alive.cons (belS w) hbel (Alive.nil _)))))))
        clear htw hbx hbel
        generalize (wT.setCell ⟨wS.heap.size, 0, none⟩ (.int .i64 3)).setCell ⟨wS.heap.size, 1, none⟩ (.int .i64 (-6)) = U3 at hP ⊢
        clear t0 t1 t2 t3 k0 k1 f0 f1 m0 m1 g0 g1
        obtain ⟨_, t0, t1, t2, t3⟩ := (show TBox _ _ x from hP.out (boxS w.heap.size x) (by simp))
        obtain ⟨_, k0, k1, f0, f1⟩ := (show Two _ wS.heap.size _ _ from hP.out (twoS wS.heap.size (.int .i64 3) (.int .i64 (-6))) (by simp))
        go_wp2_with (first | (go_at_call 18; have hP := Lib.hid (Alive.cons (twoS U3.heap.size (.int .i64 3) (.int .i64 (-6))) (two_new U3 _ _ 27) (hP.out.to ((Below.refl _ _).alloc (Nat.le_refl _) _))); have hTk := Lib.hid (show TskIn _ _ x from hP.out (tskS x) (by simp)); have hLs := Lib.hid (show Lst _ _ a2 c2 s from hP.out (lstS a2 c2 s) (by simp)); have hTb := Lib.hid (show TabIn _ from hP.out tabS (by simp)); (with_reducible refine (HAp.out _ hTk.out hLs.out hTb.out).mono ?_); rintro e wB ⟨vB, rfl, hs, hb⟩; obtain ⟨ab, cb, rfl, hl⟩ := hs.set; have hP := Lib.hid (Alive.cons (twoS wB.heap.size (.int .i64 3) (.int .i64 (-6))) (two_new wB _ _ 27) ((Alive.cons (lstS ab cb ([] : List Int)) hl (hP.out.to hb)).to ((Below.refl _ _).alloc (Nat.le_refl _) _))); clear hl hs hb; obtain ⟨_, t0, t1, t2, t3⟩ := (show TBox _ _ x from hP.out (boxS w.heap.size x) (by simp)); obtain ⟨_, v0, v1, _, _⟩ := (show Two _ U3.heap.size _ _ from hP.out (twoS U3.heap.size (.int .i64 3) (.int .i64 (-6))) (by simp)); obtain ⟨_, k0, k1, f0, f1⟩ := (show Two _ wS.heap.size _ _ from hP.out (twoS wS.heap.size (.int .i64 3) (.int .i64 (-6))) (by simp))) | (go_at_call 20; have hTk := Lib.hid (show TskIn _ _ x from hP.out (tskS x) (by simp)); have hLs := Lib.hid (show Lst _ _ a2 c2 s from hP.out (lstS a2 c2 s) (by simp)); have hTb := Lib.hid (show TabIn _ from hP.out tabS (by simp)); (with_reducible refine (HRe.out _ hTk.out hLs.out hTb.out).mono ?_); rintro e wR ⟨vR, rfl, hs, hb⟩; obtain ⟨ar, cr, rfl, hl⟩ := hs.set; have hP := Lib.hid (Alive.cons (twoS wR.heap.size (.int .i64 3) (.int .i64 (-6))) (two_new wR _ _ 27) ((Alive.cons (lstS ar cr ([] : List Int)) hl (hP.out.to hb)).to ((Below.refl _ _).alloc (Nat.le_refl _) _))); clear hl hs hb; obtain ⟨_, t0, t1, t2, t3⟩ := (show TBox _ _ x from hP.out (boxS w.heap.size x) (by simp)); obtain ⟨_, k0, k1, f0, f1⟩ := (show Two _ wS.heap.size _ _ from hP.out (twoS wS.heap.size (.int .i64 3) (.int .i64 (-6))) (by simp))))
        go_ret; exact ⟨rfl, hP.out (belS w) (by simp)⟩
      obtain ⟨m, rfl⟩ := Int.eq_ofNat_of_zero_le hin.1
      have hm : m < x.ops.length := by omega
      have hi1 : inB (m : Int) 0 ((x.ops.length : Int) - 1) = true := by
        unfold inB
        exact decide_eq_true (by omega)
      have hck : ckF x s [(m : Int)] = (0, 0) := ckF_good HF.out hin.1 hin.2
      have HAy := Lib.hid (show ayF x s (m : Int) = if subB (opr x.ops m).pre s then (0, 0) else (11, (m : Int)) from ayF_good HF.out hin.1 hin.2)
      have HAp := Lib.hid (fun (W : World) (hX : TskIn W W.heap.size x) (hS : Lst W W.heap.size a2 c2 s) (hT : TabIn W) => (apply_any x a2 c2 s (m : Int) W hX hS hT : Calls Tryd.prog 18 #[.agg #[.int .i64 x.n, .slice x.ai x.init.length x.ci, .slice x.ag x.goal.length x.cg, .slice x.ao x.ops.length x.co], .slice a2 s.length c2, .int .i64 (m : Int)] W (SlF W ((ayF x s (m : Int)).1, (ayF x s (m : Int)).2) (ayL x s (m : Int)))))
      have HRe := Lib.hid (fun (W : World) (hX : TskIn W W.heap.size x) (hS : Lst W W.heap.size a2 c2 s) (hT : TabIn W) => (by
        have h := regress_any x a2 c2 s (m : Int) W hX hS hT
        rw [hck] at h
        exact h : Calls Tryd.prog 20 #[.agg #[.int .i64 x.n, .slice x.ai x.init.length x.ci, .slice x.ag x.goal.length x.cg, .slice x.ao x.ops.length x.co], .slice a2 s.length c2, .int .i64 (m : Int)] W (RegPost W (0, 0) (reB x s (m : Int)) (reL x s (m : Int)))))
      have HRB := Lib.hid (show reB x s (m : Int) = disB s (opr x.ops m).del from reB_good HF.out hin.1 hin.2)
      have HNN := Lib.hid (stF_val HF.out).1.eq
      have HN24 := Lib.hid (stF_val HF.out).1.le
      clear hin hck
      go_upto_if 90 with (first | (go_at_call 15; have hLa := Lib.hid (show Lst _ _ aa ca (appM x s) from hP.out (lstS aa ca (appM x s)) (by simp)); have hLw := Lib.hid (show Lst _ _ aw cw (appM x s) from hP.out (lstS aw cw (appM x s)) (by simp)); refine (ints_same aa aw ca cw _ _ rfl _ hLa.out hLw.out).mono ?_; rintro e wI ⟨rfl, hb⟩; have hP := Lib.hid (hP.out.to hb); clear hb; obtain ⟨_, t0, t1, t2, t3⟩ := (show TBox _ _ x from hP.out (boxS w.heap.size x) (by simp)); obtain ⟨_, k0, k1, f0, f1⟩ := (show Two _ wS.heap.size _ _ from hP.out (twoS wS.heap.size (.int .i64 0) (.int .i64 0)) (by simp))) | (go_at_call 16; refine (in_any _ _ _ _).mono ?_; rintro e w' ⟨rfl, rfl⟩) | (go_at_call 14; have HWI := Lib.hid (show Two wI wS.heap.size _ _ from hP.out (twoS wS.heap.size (.int .i64 0) (.int .i64 0)) (by simp)).lt; have hP := Lib.hid (Alive.cons (twoS wI.heap.size (.int .i64 0) (.int .i64 0)) (two_new wI _ _ 27) (hP.out.to ((Below.refl _ _).alloc (Nat.le_refl _) _))); have hTk := Lib.hid (show TskIn _ _ x from hP.out (tskS x) (by simp)); have hLs := Lib.hid (show Lst _ _ a2 c2 s from hP.out (lstS a2 c2 s) (by simp)); (with_reducible refine (applies_any x a2 c2 s m hm _ hTk.out hLs.out).mono ?_); rintro e wV ⟨rfl, hb⟩; have hP := Lib.hid (hP.out.to hb); clear hb; obtain ⟨_, t0, t1, t2, t3⟩ := (show TBox _ _ x from hP.out (boxS w.heap.size x) (by simp)); obtain ⟨_, k0, k1, f0, f1⟩ := (show Two _ wS.heap.size _ _ from hP.out (twoS wS.heap.size (.int .i64 0) (.int .i64 0)) (by simp)); obtain ⟨_, v0, v1, v2, v3⟩ := (show Two _ wI.heap.size _ _ from hP.out (twoS wI.heap.size (.int .i64 0) (.int .i64 0)) (by simp))))
      go_cut [] from 79 to 92 (fun wx => Alive [twoS wI.heap.size (.int .i64 (ayF x s (m : Int)).1) (.int .i64 (ayF x s (m : Int)).2), twoS wS.heap.size (.int .i64 0) (.int .i64 0), boxS w.heap.size x, tskS x, lstS a2 c2 s, tabS, belS w] wx)
      case first =>
        cases hpre : subB (opr x.ops m).pre s
        case false =>
          have hay : ayF x s (m : Int) = (11, (m : Int)) := by rw [HAy.out, hpre]; rfl
          go_wp2_with (first | (go_at_call 17; refine (at_any _ _ _).mono ?_; rintro e wT ⟨rfl, hb⟩; have hP := Lib.hid (hP.out.to hb); clear hb; obtain ⟨_, t0, t1, t2, t3⟩ := (show TBox _ _ x from hP.out (boxS w.heap.size x) (by simp)); obtain ⟨_, k0, k1, f0, f1⟩ := (show Two _ wS.heap.size _ _ from hP.out (twoS wS.heap.size (.int .i64 0) (.int .i64 0)) (by simp)); obtain ⟨_, v0, v1, v2, v3⟩ := (show Two _ wI.heap.size _ _ from hP.out (twoS wI.heap.size (.int .i64 0) (.int .i64 0)) (by simp))))
          have htw := (show Two wT wI.heap.size _ _ from hP.out (twoS wI.heap.size (.int .i64 0) (.int .i64 0)) (by simp)).set (.int .i64 11) (.int .i64 m)
          have htS := ((show Two wT wS.heap.size _ _ from hP.out (twoS wS.heap.size (.int .i64 0) (.int .i64 0)) (by simp)).far (p := ⟨wI.heap.size, 0, none⟩) (Nat.ne_of_gt HWI.out) (.int .i64 11)).far (p := ⟨wI.heap.size, 1, none⟩) (Nat.ne_of_gt HWI.out) (.int .i64 m)
          have hwi : w.heap.size < wI.heap.size := Nat.lt_trans HWS.out HWI.out
          have hbx := ((show TBox wT w.heap.size x from hP.out (boxS w.heap.size x) (by simp)).far (p := ⟨wI.heap.size, 0, none⟩) (Nat.ne_of_gt hwi) (.int .i64 11)).far (p := ⟨wI.heap.size, 1, none⟩) (Nat.ne_of_gt hwi) (.int .i64 m)
          have hbel := ((show Below w.heap.size w wT from hP.out (belS w) (by simp)).setCell (p := ⟨wI.heap.size, 0, none⟩) (Nat.le_of_lt hwi) (.int .i64 11)).setCell (p := ⟨wI.heap.size, 1, none⟩) (Nat.le_of_lt hwi) (.int .i64 m)
          go_meet
          rw [hay]
          exact Alive.cons (twoS wI.heap.size (.int .i64 11) (.int .i64 m)) htw (Alive.cons (twoS wS.heap.size (.int .i64 0) (.int .i64 0)) htS (Alive.cons (boxS w.heap.size x) hbx (Alive.cons (tskS x) (HX0.out _ hbel) (Alive.cons (lstS a2 c2 s) (HS0.out _ hbel) (Alive.cons tabS (HT0.out _ hbel) (Alive.cons (belS w) hbel (Alive.nil _)))))))
        case true =>
          have hay : ayF x s (m : Int) = (0, 0) := by rw [HAy.out, hpre]; rfl
          go_wp2
          go_meet
          rw [hay]
          exact (Alive.cons (twoS wI.heap.size (.int .i64 0) (.int .i64 0)) (hP.out (twoS wI.heap.size (.int .i64 0) (.int .i64 0)) (by simp)) (Alive.cons (twoS wS.heap.size (.int .i64 0) (.int .i64 0)) (hP.out (twoS wS.heap.size (.int .i64 0) (.int .i64 0)) (by simp)) (Alive.cons (boxS w.heap.size x) (hP.out (boxS w.heap.size x) (by simp)) (Alive.cons (tskS x) (hP.out (tskS x) (by simp)) (Alive.cons (lstS a2 c2 s) (hP.out (lstS a2 c2 s) (by simp)) (Alive.cons tabS (hP.out tabS (by simp)) (Alive.cons (belS w) (hP.out (belS w) (by simp)) (Alive.nil _))))))))
      case rest =>
        have hP := Lib.hid hcut
        clear hcut t0 t1 t2 t3 k0 k1 f0 f1 m0 m1 g0 g1 v0 v1 v2 v3
        obtain ⟨_, t0, t1, t2, t3⟩ := (show TBox _ _ x from hP.out (boxS w.heap.size x) (by simp))
        obtain ⟨_, k0, k1, f0, f1⟩ := (show Two _ wS.heap.size _ _ from hP.out (twoS wS.heap.size (.int .i64 0) (.int .i64 0)) (by simp))
        obtain ⟨_, v0, v1, _, _⟩ := (show Two _ wI.heap.size _ _ from hP.out (twoS wI.heap.size (.int .i64 (ayF x s (m : Int)).1) (.int .i64 (ayF x s (m : Int)).2)) (by simp))
        go_upto_region 19 with (first | (go_at_call 18; have hTk := Lib.hid (show TskIn _ _ x from hP.out (tskS x) (by simp)); have hLs := Lib.hid (show Lst _ _ a2 c2 s from hP.out (lstS a2 c2 s) (by simp)); have hTb := Lib.hid (show TabIn _ from hP.out tabS (by simp)); (with_reducible refine (HAp.out _ hTk.out hLs.out hTb.out).mono ?_); rintro e wB ⟨vB, rfl, hs, hb⟩; obtain ⟨ab, cb, rfl, hl⟩ := hs.set; have hP := Lib.hid (Alive.cons (twoS wB.heap.size (.int .i64 (ayF x s (m : Int)).1) (.int .i64 (ayF x s (m : Int)).2)) (two_new wB _ _ 27) ((Alive.cons (lstS ab cb (ayL x s (m : Int))) hl (hP.out.to hb)).to ((Below.refl _ _).alloc (Nat.le_refl _) _))); clear hl hs hb; obtain ⟨_, t0, t1, t2, t3⟩ := (show TBox _ _ x from hP.out (boxS w.heap.size x) (by simp)); obtain ⟨_, v0, v1, _, _⟩ := (show Two _ wI.heap.size _ _ from hP.out (twoS wI.heap.size (.int .i64 (ayF x s (m : Int)).1) (.int .i64 (ayF x s (m : Int)).2)) (by simp)); obtain ⟨_, k0, k1, f0, f1⟩ := (show Two _ wS.heap.size _ _ from hP.out (twoS wS.heap.size (.int .i64 0) (.int .i64 0)) (by simp))))
        go_cut [126] from 100 to 125 (fun c wx => c = .bool false ∧ Alive [twoS wS.heap.size (.int .i64 0) (.int .i64 0), boxS w.heap.size x, tskS x, lstS a2 c2 s, tabS, belS w] wx)
        case first =>
          cases hpre : subB (opr x.ops m).pre s
          case false =>
            have hay : ayF x s (m : Int) = (11, (m : Int)) := by rw [HAy.out, hpre]; rfl
            have q1 : ((ayF x s (m : Int)).1 != 0) = true := by rw [hay]; rfl
            have q2 : ((ayF x s (m : Int)).1 == 0) = false := by rw [hay]; rfl
            have hlen : (ayL x s (m : Int)).length = 0 := by rw [ayL_bad (by rw [hay]; show (11 : Int) ≠ 0; decide)]; rfl
            clear hay hpre
            go_wp2
            go_meet
            exact ⟨rfl, (Alive.cons (twoS wS.heap.size (.int .i64 0) (.int .i64 0)) (hP.out (twoS wS.heap.size (.int .i64 0) (.int .i64 0)) (by simp)) (Alive.cons (boxS w.heap.size x) (hP.out (boxS w.heap.size x) (by simp)) (Alive.cons (tskS x) (hP.out (tskS x) (by simp)) (Alive.cons (lstS a2 c2 s) (hP.out (lstS a2 c2 s) (by simp)) (Alive.cons tabS (hP.out tabS (by simp)) (Alive.cons (belS w) (hP.out (belS w) (by simp)) (Alive.nil _)))))))⟩
          case true =>
            have hay : ayF x s (m : Int) = (0, 0) := by rw [HAy.out, hpre]; rfl
            have q1 : ((ayF x s (m : Int)).1 != 0) = false := by rw [hay]; rfl
            have q2 : ((ayF x s (m : Int)).1 == 0) = true := by rw [hay]; rfl
            have HEQ := Lib.hid (show ayL x s (m : Int) = (aftL x.n.toNat (opr x.ops m).add (opr x.ops m).del s) from ayL_good (by rw [hay]))
            clear hay hpre
            go_wp2_with (first | (go_at_call 19; have hTk := Lib.hid (show TskIn _ _ x from hP.out (tskS x) (by simp)); have hLs := Lib.hid (show Lst _ _ a2 c2 s from hP.out (lstS a2 c2 s) (by simp)); (with_reducible refine (afterR_any x x.n.toNat HNN.out HN24.out a2 c2 s m hm _ hTk.out hLs.out).mono ?_); rintro e wF ⟨vF, rfl, hownF, hb⟩; obtain ⟨af, cf, rfl, hl⟩ := (sliceOf_own hownF).set; have hP := Lib.hid (Alive.cons (lstS af cf (aftL x.n.toNat (opr x.ops m).add (opr x.ops m).del s)) hl (hP.out.to hb)); clear hl hownF hb) | (go_at_call 15; have hL1 := Lib.hid (show Lst _ _ ab cb (ayL x s (m : Int)) from hP.out (lstS ab cb (ayL x s (m : Int))) (by simp)); have hL2 := Lib.hid (show Lst _ _ af cf (aftL x.n.toNat (opr x.ops m).add (opr x.ops m).del s) from hP.out (lstS af cf (aftL x.n.toNat (opr x.ops m).add (opr x.ops m).del s)) (by simp)); (with_reducible refine (ints_same ab af cb cf (ayL x s (m : Int)) (aftL x.n.toNat (opr x.ops m).add (opr x.ops m).del s) HEQ.out _ hL1.out hL2.out).mono ?_); rintro e wJ ⟨rfl, hb⟩; have hP := Lib.hid (hP.out.to hb); clear hb))
            go_meet
            exact ⟨rfl, (Alive.cons (twoS wS.heap.size (.int .i64 0) (.int .i64 0)) (hP.out (twoS wS.heap.size (.int .i64 0) (.int .i64 0)) (by simp)) (Alive.cons (boxS w.heap.size x) (hP.out (boxS w.heap.size x) (by simp)) (Alive.cons (tskS x) (hP.out (tskS x) (by simp)) (Alive.cons (lstS a2 c2 s) (hP.out (lstS a2 c2 s) (by simp)) (Alive.cons tabS (hP.out tabS (by simp)) (Alive.cons (belS w) (hP.out (belS w) (by simp)) (Alive.nil _)))))))⟩
        case rest =>
          obtain ⟨rfl, ha⟩ := hcut
          have hP := Lib.hid ha
          clear ha t0 t1 t2 t3 k0 k1 f0 f1
          obtain ⟨_, t0, t1, t2, t3⟩ := (show TBox _ _ x from hP.out (boxS w.heap.size x) (by simp))
          obtain ⟨_, k0, k1, f0, f1⟩ := (show Two _ wS.heap.size _ _ from hP.out (twoS wS.heap.size (.int .i64 0) (.int .i64 0)) (by simp))
          cases hdis : disB s (opr x.ops m).del
          case false =>
            have HReD := Lib.hid (fun (W : World) (hX : TskIn W W.heap.size x) (hS : Lst W W.heap.size a2 c2 s) (hT : TabIn W) => (by
              have h := HRe.out W hX hS hT
              rw [show reL x s (m : Int) = [] from (by unfold reL; rw [HRB.out, hdis]; rfl), show reB x s (m : Int) = false from HRB.out.trans hdis] at h
              exact h : Calls Tryd.prog 20 #[.agg #[.int .i64 x.n, .slice x.ai x.init.length x.ci, .slice x.ag x.goal.length x.cg, .slice x.ao x.ops.length x.co], .slice a2 s.length c2, .int .i64 (m : Int)] W (RegPost W (0, 0) false ([] : List Int))))
            go_upto_region 22 with (first | (go_at_call 20; have hTk := Lib.hid (show TskIn _ _ x from hP.out (tskS x) (by simp)); have hLs := Lib.hid (show Lst _ _ a2 c2 s from hP.out (lstS a2 c2 s) (by simp)); have hTb := Lib.hid (show TabIn _ from hP.out tabS (by simp)); (with_reducible refine (HReD.out _ hTk.out hLs.out hTb.out).mono ?_); rintro e wR ⟨vR, rfl, hs, hb⟩; obtain ⟨ar, cr, rfl, hl⟩ := hs.set; have hP := Lib.hid (Alive.cons (twoS wR.heap.size (.int .i64 0) (.int .i64 0)) (two_new wR _ _ 27) ((Alive.cons (lstS ar cr ([] : List Int)) hl (hP.out.to hb)).to ((Below.refl _ _).alloc (Nat.le_refl _) _))); clear hl hs hb; obtain ⟨_, t0, t1, t2, t3⟩ := (show TBox _ _ x from hP.out (boxS w.heap.size x) (by simp)); obtain ⟨_, k0, k1, f0, f1⟩ := (show Two _ wS.heap.size _ _ from hP.out (twoS wS.heap.size (.int .i64 0) (.int .i64 0)) (by simp))))
            have hTk := Lib.hid (show TskIn _ _ x from hP.out (tskS x) (by simp)); have hLs2 := Lib.hid (show Lst _ _ a2 c2 s from hP.out (lstS a2 c2 s) (by simp)); obtain ⟨b, p, a1, a2', a3', c1, c2', c3', hao, hbl, ⟨q0, q1, q2, q3⟩, hOV⟩ := hTk.out.ops.at_ hm; have HOV := Lib.hid hOV; clear hOV; rw [hao] at t3 ⊢
            go_wp2_with (first | (go_at_call 21; (with_reducible refine (disjoint_any a2 a3' c2 c3' s (opr x.ops m).del _ hLs2.out.nums HOV.out.del.nums hLs2.out.len HOV.out.del.len).mono ?_); rw [hdis]; rintro e w' ⟨rfl, rfl⟩))
            go_ret; exact ⟨rfl, hP.out (belS w) (by simp)⟩
          case true =>
            have HReE := Lib.hid (fun (W : World) (hX : TskIn W W.heap.size x) (hS : Lst W W.heap.size a2 c2 s) (hT : TabIn W) => (by
              have h := HRe.out W hX hS hT
              rw [show reL x s (m : Int) = (regL x.n.toNat (opr x.ops m).pre (opr x.ops m).add s) from (by unfold reL; rw [HRB.out, hdis]; rfl), show reB x s (m : Int) = true from HRB.out.trans hdis] at h
              exact h : Calls Tryd.prog 20 #[.agg #[.int .i64 x.n, .slice x.ai x.init.length x.ci, .slice x.ag x.goal.length x.cg, .slice x.ao x.ops.length x.co], .slice a2 s.length c2, .int .i64 (m : Int)] W (RegPost W (0, 0) true (regL x.n.toNat (opr x.ops m).pre (opr x.ops m).add s))))
            go_upto_region 22 with (first | (go_at_call 20; have hTk := Lib.hid (show TskIn _ _ x from hP.out (tskS x) (by simp)); have hLs := Lib.hid (show Lst _ _ a2 c2 s from hP.out (lstS a2 c2 s) (by simp)); have hTb := Lib.hid (show TabIn _ from hP.out tabS (by simp)); (with_reducible refine (HReE.out _ hTk.out hLs.out hTb.out).mono ?_); rintro e wR ⟨vR, rfl, hs, hb⟩; obtain ⟨ar, cr, rfl, hl⟩ := hs.set; have hP := Lib.hid (Alive.cons (twoS wR.heap.size (.int .i64 0) (.int .i64 0)) (two_new wR _ _ 27) ((Alive.cons (lstS ar cr (regL x.n.toNat (opr x.ops m).pre (opr x.ops m).add s)) hl (hP.out.to hb)).to ((Below.refl _ _).alloc (Nat.le_refl _) _))); clear hl hs hb; obtain ⟨_, t0, t1, t2, t3⟩ := (show TBox _ _ x from hP.out (boxS w.heap.size x) (by simp)); obtain ⟨_, k0, k1, f0, f1⟩ := (show Two _ wS.heap.size _ _ from hP.out (twoS wS.heap.size (.int .i64 0) (.int .i64 0)) (by simp))))
            have hTk := Lib.hid (show TskIn _ _ x from hP.out (tskS x) (by simp)); have hLs2 := Lib.hid (show Lst _ _ a2 c2 s from hP.out (lstS a2 c2 s) (by simp)); obtain ⟨b, p, a1, a2', a3', c1, c2', c3', hao, hbl, ⟨q0, q1, q2, q3⟩, hOV⟩ := hTk.out.ops.at_ hm; have HOV := Lib.hid hOV; clear hOV; rw [hao] at t3 ⊢
            go_wp2_with (first | (go_at_call 21; (with_reducible refine (disjoint_any a2 a3' c2 c3' s (opr x.ops m).del _ hLs2.out.nums HOV.out.del.nums hLs2.out.len HOV.out.del.len).mono ?_); rw [hdis]; rintro e w' ⟨rfl, rfl⟩))
            generalize wR.alloc (.cells #[.int .i64 0, .int .i64 0] 27) = U4 at hP t0 t1 t2 t3 k0 k1 f0 f1 q0 q1 q2 q3 HOV hLs2 hbl ⊢
            have HAL4 := Lib.hid (fun (V : World) (h : Below U4.heap.size U4 V) => hP.out.to h)
            have HCV := Lib.hid (fun (V : World) (h : Below U4.heap.size U4 V) => (⟨OpC.to ⟨q0, q1, q2, q3⟩ h hbl, HOV.out.to h h.size⟩ : OpC V b (p + m * 4) (opr x.ops m) a1 a2' a3' c1 c2' c3' ∧ OpV V V.heap.size (opr x.ops m) a1 a2' a3' c1 c2' c3'))
            clear hP t0 t1 t2 t3 k0 k1 f0 f1 q0 q1 q2 q3 HOV hLs2 hbl hdis
            go_loopw [18, 19] (fun v i wr => ∃ j : Nat, j ≤ x.n.toNat ∧ i = .int .i64 j ∧ Below U4.heap.size U4 wr ∧ wr.ownsRow U4.heap.size 3 1 v (facs j (rgF x s m)).length ((facs j (rgF x s m)).map (Value.int .i64))) (fun _ i _ => x.n.toNat - (intOf i).toNat)
            case atStart => exact ⟨0, by omega, rfl, Below.refl _ _, World.ownsRow_nil _ _ _ _⟩
            case round =>
              obtain ⟨j, hj, rfl, hbe, hown⟩ := hrel
              have hP := Lib.hid (HAL4.out wr hbe)
              have HBE := Lib.hid hbe
              obtain ⟨⟨q0, q1, q2, q3⟩, hOV⟩ := HCV.out wr hbe
              have HOV := Lib.hid hOV
              clear hbe hOV
              obtain ⟨_, t0, t1, t2, t3⟩ := (show TBox _ _ x from hP.out (boxS w.heap.size x) (by simp))
              obtain ⟨_, k0, k1, f0, f1⟩ := (show Two _ wS.heap.size _ _ from hP.out (twoS wS.heap.size (.int .i64 0) (.int .i64 0)) (by simp))
              rw [hao] at t3
              have hLs2 := Lib.hid (show Lst _ _ a2 c2 s from hP.out (lstS a2 c2 s) (by simp))
              have hlf := facs_len j (rgF x s m)
              have hn24 := HN24.out
              by_cases hlt : j < x.n.toNat
              · have hlti : (j : Int) < x.n := by have := HNN.out; omega
                cases hc : rgF x s m j
                · have HQ := Lib.hid (facs_succ_no (n := j) (f := rgF x s m) hc)
                  have hc := rgF_no hc
                  cases hc3 : hasB s j
                  case' true => have hc4 := hc.2 hc3
                  all_goals
                    have hc1 := hc.1
                    clear hc
                    go_wp2_with (first | (go_at_call 22; (with_reducible refine (has_any a1 c1 (opr x.ops m).pre j wr HOV.out.pre.nums HOV.out.pre.len).mono ?_); rw [hc1]; rintro e w1 ⟨rfl, rfl⟩) | (go_at_call 22; (with_reducible refine (has_any a2 c2 s j wr hLs2.out.nums hLs2.out.len).mono ?_); rw [hc3]; rintro e w1 ⟨rfl, rfl⟩) | (go_at_call 22; (with_reducible refine (has_any a2' c2' (opr x.ops m).add j wr HOV.out.add.nums HOV.out.add.len).mono ?_); rw [hc4]; rintro e w1 ⟨rfl, rfl⟩))
                    go_roundw
                    case rel => exact ⟨j + 1, by omega, by go_num, HBE.out, by rw [HQ.out]; exact hown⟩
                    case measure => simp [intOf]; omega
                · have HQ := Lib.hid (facs_succ_yes (n := j) (f := rgF x s m) hc)
                  cases hc1 : hasB (opr x.ops m).pre j
                  case' false => obtain ⟨hc3, hc4⟩ := rgF_yes hc hc1
                  all_goals
                    clear hc
                    go_wp2_with (first
                      | (go_at_call 22; (with_reducible refine (has_any a1 c1 (opr x.ops m).pre j wr HOV.out.pre.nums HOV.out.pre.len).mono ?_); rw [hc1]; rintro e w1 ⟨rfl, rfl⟩)
                      | (go_at_call 22; (with_reducible refine (has_any a2 c2 s j wr hLs2.out.nums hLs2.out.len).mono ?_); rw [hc3]; rintro e w1 ⟨rfl, rfl⟩)
                      | (go_at_call 22; (with_reducible refine (has_any a2' c2' (opr x.ops m).add j wr HOV.out.add.nums HOV.out.add.len).mono ?_); rw [hc4]; rintro e w1 ⟨rfl, rfl⟩)
                      | (at_builtin; refine wpList_append_own _ rfl _ _ 22 rfl U4.heap.size 3 i0 (.int .i64 0) 1 8 Tryd.underlying22 hi hz0 hz1 hz2 rfl (by decide) _ _ _ rfl (hown.alloc _) ⟨wr.heap.size, 0, none⟩ 1 1 [.int .i64 j] rfl rfl (cell_one_new _ _ _) (by simp [Value.oneCell']) (by unfold maxLen; omega) (by omega) (by have := HBE.out.size; simp; omega) ?_))
                    intro v' w7 hown7 hgrow _
                    have HG := Lib.hid hgrow
                    clear hgrow
                    go_wp2
                    go_roundw
                    case rel =>
                      refine ⟨j + 1, by omega, by go_num, ?_, ?_⟩
                      · have h6 : Below U4.heap.size U4 (wr.alloc (.cells #[.int .i64 j] 3)) := HBE.out.alloc HBE.out.size _
                        exact h6.grown HG.out h6.size (fun q hq => (hown.lt q hq).1)
                      · rw [HQ.out]; simpa using hown7
                    case measure => simp [intOf]; omega
              · obtain rfl : j = x.n.toNat := by omega
                have hge : ¬ ((x.n.toNat : Int) < x.n) := by have := HNN.out; omega
                obtain ⟨aj, cj, rfl, hlw⟩ := (sliceOf_own hown).set
                have hP := Lib.hid (Alive.cons (lstS aj cj (facs x.n.toNat (rgF x s m))) hlw hP.out)
                obtain ⟨_, r0, r1, _, _⟩ := (show Two _ wR.heap.size _ _ from hP.out (twoS wR.heap.size (.int .i64 0) (.int .i64 0)) (by simp))
                clear hlw hown hlf q0 q1 q2 q3 HOV
                go_wp2_with (first | (go_at_call 15; have hL1 := Lib.hid (show Lst _ _ ar cr (regL x.n.toNat (opr x.ops m).pre (opr x.ops m).add s) from hP.out (lstS ar cr (regL x.n.toNat (opr x.ops m).pre (opr x.ops m).add s)) (by simp)); have hL2 := Lib.hid (show Lst _ _ aj cj (facs x.n.toNat (rgF x s m)) from hP.out (lstS aj cj (facs x.n.toNat (rgF x s m))) (by simp)); (with_reducible refine (ints_same ar aj cr cj (regL x.n.toNat (opr x.ops m).pre (opr x.ops m).add s) (facs x.n.toNat (rgF x s m)) rfl _ hL1.out hL2.out).mono ?_); rintro e wJ ⟨rfl, hb⟩; have hP := Lib.hid (hP.out.to hb); clear hb))
                go_ret; exact ⟨rfl, hP.out (belS w) (by simp)⟩
end Go.Proofs.YtdgolaegbdadlaaDoor
