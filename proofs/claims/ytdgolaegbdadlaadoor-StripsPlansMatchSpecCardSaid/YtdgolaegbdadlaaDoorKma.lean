/- The law StripsMatchesSpec: the walk where the state has a fault. -/
import Derived.Test.YtdgolaegbdadlaaDoorKcn
namespace Go.Proofs.YtdgolaegbdadlaaDoor
open Go.RowKit
set_option linter.unusedSimpArgs false
set_option linter.unusedVariables false
set_option maxRecDepth 100000

theorem last5 {P1 P2 P3 P4 Q : Prop} (h : P1 ∧ P2 ∧ P3 ∧ P4 ∧ Q) : Q := h.2.2.2.2
theorem ints_nil (a : Option Addr) (c : Nat) (l : List Int) (h : l = []) (w : World) (hL : Lst w w.heap.size a c l) :
    Calls Tryd.prog 15 #[.slice a l.length c, .slice none 0 0] w fun e w' => e = .returned (.bool true) ∧ Below w.heap.size w w' := by
  subst h
  have := ints_any a none c 0 [] [] w hL.nums (nums_nil _ _ _) hL.len (by simp)
  rw [eqL_self] at this
  exact this
theorem ints_same (a a' : Option Addr) (c c' : Nat) (l l' : List Int) (h : l = l') (w : World) (hL : Lst w w.heap.size a c l) (hL' : Lst w w.heap.size a' c' l') :
    Calls Tryd.prog 15 #[.slice a l.length c, .slice a' l'.length c'] w fun e w' => e = .returned (.bool true) ∧ Below w.heap.size w w' := by
  subst h
  have := ints_any a a' c c' l l w hL.nums hL'.nums hL.len hL'.len
  rw [eqL_self] at this
  exact this
theorem ck_bad {x : Tsk} {s plan : List Int} (h : (stF x s).1 ≠ 0) : ckF x s plan = stF x s := by
  unfold ckF
  rw [if_pos h]
theorem ay_ck {x : Tsk} {s : List Int} {op : Int} (h : (ckF x s [op]).1 ≠ 0) : ayF x s op = ckF x s [op] ∧ ayL x s op = [] ∧ reB x s op = false ∧ reL x s op = [] := by
  have e : ayF x s op = ckF x s [op] := by
    unfold ayF
    rw [if_pos h]
  have e2 : reB x s op = false := by
    unfold reB
    rw [decide_eq_false h]; rfl
  refine ⟨e, ayL_bad (by rw [e]; exact h), e2, ?_⟩
  unfold reL
  rw [e2]; rfl
theorem appM_bad {x : Tsk} {s : List Int} (h : (stF x s).1 ≠ 0) : appM x s = [] := by
  unfold appM
  rw [if_neg h]
set_option maxHeartbeats 8000000 in
theorem mspec_a (x : Tsk) (a2 : Option Addr) (c2 : Nat) (s : List Int) (op : Int) (w : World) (hX : TskIn w w.heap.size x) (hS : Lst w w.heap.size a2 c2 s) (hT : TabIn w) (hf : (stF x s).1 ≠ 0) :
    Calls Tryd.prog 3 #[.agg #[.int .i64 x.n, .slice x.ai x.init.length x.ci, .slice x.ag x.goal.length x.cg, .slice x.ao x.ops.length x.co], .slice a2 s.length c2, .int .i64 op] w fun e w' => e = .returned (.bool true) ∧ Below w.heap.size w w' := by
  have HX0 := Lib.hid (fun (W : World) (h : Below w.heap.size w W) => hX.to h h.size); have HS0 := Lib.hid (fun (W : World) (h : Below w.heap.size w W) => hS.to h h.size); have HT0 := Lib.hid (fun (W : World) (h : Below w.heap.size w W) => hT.to h (Nat.le_refl _)); have hP := Lib.hid (Alive.cons (boxS w.heap.size x) (tbox_new w x 25) ((Alive.cons (tskS x) hX (Alive.cons (lstS a2 c2 s) hS (Alive.cons tabS hT (Alive.cons (belS w) (Below.refl _ w) (Alive.nil w))))).to ((Below.refl _ _).alloc (Nat.le_refl _) (.cells #[.int .i64 x.n, .slice x.ai x.init.length x.ci, .slice x.ag x.goal.length x.cg, .slice x.ao x.ops.length x.co] 25)))); clear hX hS hT
  have hfld := run_code
  have hc := ck_bad (plan := [op]) hf
  have HAN := Lib.hid (appM_bad hf)
  obtain ⟨e1, e2, e3, e4⟩ := ay_ck (x := x) (s := s) (op := op) (by rw [hc]; exact hf)
  rw [hc] at e1
  have HSf := Lib.hid (fun (W : World) (hX : TskIn W W.heap.size x) (hS : Lst W W.heap.size a2 c2 s) => (stateFault_any x a2 c2 s W hX hS : Calls Tryd.prog 9 #[.agg #[.int .i64 x.n, .slice x.ai x.init.length x.ci, .slice x.ag x.goal.length x.cg, .slice x.ao x.ops.length x.co], .slice a2 s.length c2] W fun e w' => e = .returned (faultV ((stF x s).1, (stF x s).2)) ∧ Below W.heap.size W w'))
  have HAm := Lib.hid (fun (W : World) (hX : TskIn W W.heap.size x) (hS : Lst W W.heap.size a2 c2 s) => (applicable_any x a2 c2 s W hX hS : Calls Tryd.prog 13 #[.agg #[.int .i64 x.n, .slice x.ai x.init.length x.ci, .slice x.ag x.goal.length x.cg, .slice x.ao x.ops.length x.co], .slice a2 s.length c2] W (SlF W ((stF x s).1, (stF x s).2) (appM x s))))
  have HAp := Lib.hid (fun (W : World) (hX : TskIn W W.heap.size x) (hS : Lst W W.heap.size a2 c2 s) (hT : TabIn W) => (by
    have h := apply_any x a2 c2 s op W hX hS hT
    rw [e1, e2] at h
    exact h : Calls Tryd.prog 18 #[.agg #[.int .i64 x.n, .slice x.ai x.init.length x.ci, .slice x.ag x.goal.length x.cg, .slice x.ao x.ops.length x.co], .slice a2 s.length c2, .int .i64 op] W (SlF W ((stF x s).1, (stF x s).2) ([] : List Int))))
  have HRe := Lib.hid (fun (W : World) (hX : TskIn W W.heap.size x) (hS : Lst W W.heap.size a2 c2 s) (hT : TabIn W) => (by
    have h := regress_any x a2 c2 s op W hX hS hT
    rw [hc, e3, e4] at h
    exact h : Calls Tryd.prog 20 #[.agg #[.int .i64 x.n, .slice x.ai x.init.length x.ci, .slice x.ag x.goal.length x.cg, .slice x.ao x.ops.length x.co], .slice a2 s.length c2, .int .i64 op] W (RegPost W ((stF x s).1, (stF x s).2) false ([] : List Int))))
  have hne : ((stF x s).1 != 0) = true := by simpa using hf
  have hne2 : ((stF x s).1 == 0) = false := by simpa using hf
  clear hf hc e1 e2 e3 e4
  go_enter Tryd.func3, Tryd.ntmps3
  go_wp2_with (first | (go_at_call 9; have hTk := Lib.hid (show TskIn _ _ x from hP.out (tskS x) (by simp)); have hLs := Lib.hid (show Lst _ _ a2 c2 s from hP.out (lstS a2 c2 s) (by simp)); (with_reducible refine (HSf.out _ hTk.out hLs.out).mono ?_); rintro e wS ⟨rfl, hb⟩; have HWS := Lib.hid (show TBox wS w.heap.size x from (hP.out.to hb) (boxS w.heap.size x) (by simp)).lt; have hP := Lib.hid (Alive.cons (twoS wS.heap.size (.int .i64 (stF x s).1) (.int .i64 (stF x s).2)) (two_new wS _ _ 27) ((hP.out.to hb).to ((Below.refl _ _).alloc (Nat.le_refl _) _))); clear hb; obtain ⟨_, t0, t1, t2, t3⟩ := (show TBox _ _ x from hP.out (boxS w.heap.size x) (by simp))))
  generalize hU : wS.alloc (.cells #[.int .i64 (stF x s).1, .int .i64 (stF x s).2] 27) = U at hP t0 t1 t2 t3 ⊢; clear hU; have HAL := Lib.hid (fun (V : World) (h : Below U.heap.size U V) => hP.out.to h); have hUU := Below.refl U.heap.size U; have HSO := Lib.hid (fun (V : World) (h : Below U.heap.size U V) => (⟨(show TBox V w.heap.size x from HAL.out V h (boxS w.heap.size x) (by simp)).c0, (show TBox V w.heap.size x from HAL.out V h (boxS w.heap.size x) (by simp)).c1, (show TBox V w.heap.size x from HAL.out V h (boxS w.heap.size x) (by simp)).c2, (show TBox V w.heap.size x from HAL.out V h (boxS w.heap.size x) (by simp)).c3, h⟩ : V.cell? ⟨w.heap.size, 0, none⟩ = some (.int .i64 x.n) ∧ V.cell? ⟨w.heap.size, 1, none⟩ = some (.slice x.ai x.init.length x.ci) ∧ V.cell? ⟨w.heap.size, 2, none⟩ = some (.slice x.ag x.goal.length x.cg) ∧ V.cell? ⟨w.heap.size, 3, none⟩ = some (.slice x.ao x.ops.length x.co) ∧ Below U.heap.size U V)); clear hP
  go_region_held3 (fun V => V.cell? ⟨w.heap.size, 0, none⟩ = some (.int .i64 x.n) ∧ V.cell? ⟨w.heap.size, 1, none⟩ = some (.slice x.ai x.init.length x.ci) ∧ V.cell? ⟨w.heap.size, 2, none⟩ = some (.slice x.ag x.goal.length x.cg) ∧ V.cell? ⟨w.heap.size, 3, none⟩ = some (.slice x.ao x.ops.length x.co) ∧ Below U.heap.size U V) (first | (refine ⟨?_, ?_, ?_, ?_, ?_⟩ <;> assumption) | (exact HSO.out _ hUU.drew) | (exact HSO.out _ (bel_step (last5 (by assumption)) (by assumption)))) (first | (go_at_call 10; refine (acts_any _ ?_).mono ?_; (exact (show TabIn _ from HAL.out _ (last5 (by assumption)) tabS (by simp))); rintro e w' ⟨rfl, hb⟩) | (go_at_call 11; refine (validate_any x _ ?_).mono ?_; (exact (show TskIn _ _ x from HAL.out _ (last5 (by assumption)) (tskS x) (by simp))); rintro e w' ⟨rfl, hb⟩) | (go_at_call 12; refine (taskFault_any x _ ?_).mono ?_; (exact (show TskIn _ _ x from HAL.out _ (last5 (by assumption)) (tskS x) (by simp))); rintro e w' ⟨rfl, hb⟩))
  have hP := Lib.hid (HAL.out w' (last5 (by assumption)))
  clear HSO HAL hUU
  obtain ⟨_, t0, t1, t2, t3⟩ := (show TBox _ _ x from hP.out (boxS w.heap.size x) (by simp))
  obtain ⟨_, k0, k1, f0, f1⟩ := (show Two _ wS.heap.size _ _ from hP.out (twoS wS.heap.size (.int .i64 (stF x s).1) (.int .i64 (stF x s).2)) (by simp))
  go_wp2_with (first | (go_at_call 13; have hTk := Lib.hid (show TskIn _ _ x from hP.out (tskS x) (by simp)); have hLs := Lib.hid (show Lst _ _ a2 c2 s from hP.out (lstS a2 c2 s) (by simp)); (with_reducible refine (HAm.out _ hTk.out hLs.out).mono ?_); rintro e wA ⟨vA, rfl, hs, hb⟩; obtain ⟨aa, ca, rfl, hl⟩ := hs.set; have hP := Lib.hid (Alive.cons (twoS wA.heap.size (.int .i64 (stF x s).1) (.int .i64 (stF x s).2)) (two_new wA _ _ 27) ((Alive.cons (lstS aa ca (appM x s)) hl (hP.out.to hb)).to ((Below.refl _ _).alloc (Nat.le_refl _) _))); clear hl hs hb; obtain ⟨_, t0, t1, t2, t3⟩ := (show TBox _ _ x from hP.out (boxS w.heap.size x) (by simp))))
  generalize hU : wA.alloc (.cells #[.int .i64 (stF x s).1, .int .i64 (stF x s).2] 27) = U2 at hP t0 t1 t2 t3 ⊢
  clear hU k0 k1 f0 f1
  obtain ⟨_, k0, k1, f0, f1⟩ := (show Two _ wS.heap.size _ _ from hP.out (twoS wS.heap.size (.int .i64 (stF x s).1) (.int .i64 (stF x s).2)) (by simp))
  obtain ⟨_, m0, m1, g0, g1⟩ := (show Two _ wA.heap.size _ _ from hP.out (twoS wA.heap.size (.int .i64 (stF x s).1) (.int .i64 (stF x s).2)) (by simp))
  go_loopw [10, 11] (fun v i wr => v = .slice none 0 0 ∧ i = .int .i64 0 ∧ wr = U2) (fun _ i _ => 0)
  case atStart => exact ⟨rfl, rfl, rfl⟩
  case round =>
    obtain ⟨rfl, rfl, rfl⟩ := hrel
    by_cases hl : 0 < x.ops.length
    all_goals
      go_wp2_with (first | (go_at_call 15; have hLa := Lib.hid (show Lst _ _ aa ca (appM x s) from hP.out (lstS aa ca (appM x s)) (by simp)); refine (ints_nil aa ca _ HAN.out _ hLa.out).mono ?_; rintro e wI ⟨rfl, hb⟩; have hP := Lib.hid (hP.out.to hb); clear hb; obtain ⟨_, t0, t1, t2, t3⟩ := (show TBox _ _ x from hP.out (boxS w.heap.size x) (by simp)); obtain ⟨_, k0, k1, f0, f1⟩ := (show Two _ wS.heap.size _ _ from hP.out (twoS wS.heap.size (.int .i64 (stF x s).1) (.int .i64 (stF x s).2)) (by simp))) | (go_at_call 18; have hP := Lib.hid (Alive.cons (twoS wI.heap.size (.int .i64 (stF x s).1) (.int .i64 (stF x s).2)) (two_new wI _ _ 27) (hP.out.to ((Below.refl _ _).alloc (Nat.le_refl _) _))); have hTk := Lib.hid (show TskIn _ _ x from hP.out (tskS x) (by simp)); have hLs := Lib.hid (show Lst _ _ a2 c2 s from hP.out (lstS a2 c2 s) (by simp)); have hTb := Lib.hid (show TabIn _ from hP.out tabS (by simp)); (with_reducible refine (HAp.out _ hTk.out hLs.out hTb.out).mono ?_); rintro e wB ⟨vB, rfl, hs, hb⟩; obtain ⟨ab, cb, rfl, hl⟩ := hs.set; have hP := Lib.hid (Alive.cons (twoS wB.heap.size (.int .i64 (stF x s).1) (.int .i64 (stF x s).2)) (two_new wB _ _ 27) ((Alive.cons (lstS ab cb ([] : List Int)) hl (hP.out.to hb)).to ((Below.refl _ _).alloc (Nat.le_refl _) _))); clear hl hs hb; obtain ⟨_, t0, t1, t2, t3⟩ := (show TBox _ _ x from hP.out (boxS w.heap.size x) (by simp)); obtain ⟨_, v0, v1, _, _⟩ := (show Two _ wI.heap.size _ _ from hP.out (twoS wI.heap.size (.int .i64 (stF x s).1) (.int .i64 (stF x s).2)) (by simp)); obtain ⟨_, k0, k1, f0, f1⟩ := (show Two _ wS.heap.size _ _ from hP.out (twoS wS.heap.size (.int .i64 (stF x s).1) (.int .i64 (stF x s).2)) (by simp))) | (go_at_call 20; have hTk := Lib.hid (show TskIn _ _ x from hP.out (tskS x) (by simp)); have hLs := Lib.hid (show Lst _ _ a2 c2 s from hP.out (lstS a2 c2 s) (by simp)); have hTb := Lib.hid (show TabIn _ from hP.out tabS (by simp)); (with_reducible refine (HRe.out _ hTk.out hLs.out hTb.out).mono ?_); rintro e wR ⟨vR, rfl, hs, hb⟩; obtain ⟨ar, cr, rfl, hl⟩ := hs.set; have hP := Lib.hid (Alive.cons (twoS wR.heap.size (.int .i64 (stF x s).1) (.int .i64 (stF x s).2)) (two_new wR _ _ 27) ((Alive.cons (lstS ar cr ([] : List Int)) hl (hP.out.to hb)).to ((Below.refl _ _).alloc (Nat.le_refl _) _))); clear hl hs hb; obtain ⟨_, t0, t1, t2, t3⟩ := (show TBox _ _ x from hP.out (boxS w.heap.size x) (by simp)); obtain ⟨_, k0, k1, f0, f1⟩ := (show Two _ wS.heap.size _ _ from hP.out (twoS wS.heap.size (.int .i64 (stF x s).1) (.int .i64 (stF x s).2)) (by simp))))
      go_ret; exact ⟨rfl, hP.out (belS w) (by simp)⟩
end Go.Proofs.YtdgolaegbdadlaaDoor
