/- The law StripsPlansMatchSpec: the walk. -/
import Derived.Test.YtdgolaegbdadlaaDoorKpq
import Derived.Deep.CutRange
import Derived.Deep.CutBlock
namespace Go.Proofs.YtdgolaegbdadlaaDoor
open Go.RowKit
set_option linter.unusedSimpArgs false
set_option linter.unusedVariables false
set_option maxRecDepth 100000

theorem svB_no {x : Tsk} {plan : List Int} (h : (plF x plan).1 ≠ 0) : svB x plan = false ∧ coM x plan = 0 := by
  constructor
  · unfold svB; rw [decide_eq_false h]; rfl
  · unfold coM; rw [if_neg h]
theorem svB_yes {x : Tsk} {plan : List Int} (h : (plF x plan).1 = 0) : svB x plan = solB x x.n.toNat x.init plan ∧ coM x plan = costTo x plan plan.length := by
  constructor
  · unfold svB; rw [decide_eq_true h]; rfl
  · unfold coM; rw [if_pos h]
/-- What the loop over the steps knows: all before k can be executed, or the fault is found. -/
def LSt (x : Tsk) (s plan : List Int) (k : Nat) (g1 g2 : Int) : Prop :=
  (g1 = 0 ∧ g2 = 0 ∧ (ckF x s plan).1 = 0 ∧ (runTo x x.n.toNat s plan k).isSome = true) ∨ (g1 ≠ 0 ∧ plyF x s plan = (g1, g2))
theorem LSt.start (x : Tsk) (s plan : List Int) : LSt x s plan 0 (ckF x s plan).1 (ckF x s plan).2 := by
  by_cases h : (ckF x s plan).1 = 0
  · exact .inl ⟨h, by rw [(ckF_zero h).1], h, rfl⟩
  · exact .inr ⟨h, plyF_ck h⟩
theorem LSt.bad {x : Tsk} {s plan : List Int} {k : Nat} {g1 g2 : Int} (h : LSt x s plan k g1 g2) (hg : ¬ g1 = 0) : plyF x s plan = (g1, g2) := by
  rcases h with h | h
  · exact absurd h.1 hg
  · exact h.2
theorem LSt.good {x : Tsk} {s plan : List Int} {k : Nat} {g1 g2 : Int} (h : LSt x s plan k g1 g2) (hg : g1 = 0) : g2 = 0 ∧ (ckF x s plan).1 = 0 ∧ (runTo x x.n.toNat s plan k).isSome = true := by
  rcases h with h | h
  · exact h.2
  · exact absurd hg h.1
/-- A store into the box of the fault keeps the rest. -/
theorem alive_set {w W : World} {x : Tsk} {a2 a3 : Option Addr} {c2 c3 : Nat} {s plan : List Int} {g : Nat} {u v : Value} (hX : ∀ W, Below w.heap.size w W → TskIn W W.heap.size x) (hS : ∀ W, Below w.heap.size w W → Lst W W.heap.size a2 c2 s) (hL : ∀ W, Below w.heap.size w W → Lst W W.heap.size a3 c3 plan) (hT : ∀ W, Below w.heap.size w W → TabIn W)
    (hg : w.heap.size < g) (h : Alive (twoS g u v :: [boxS w.heap.size x, tskS x, lstS a2 c2 s, lstS a3 c3 plan, tabS, belS w]) W) (a b : Value) : Alive (twoS g a b :: [boxS w.heap.size x, tskS x, lstS a2 c2 s, lstS a3 c3 plan, tabS, belS w]) ((W.setCell ⟨g, 0, none⟩ a).setCell ⟨g, 1, none⟩ b) := by
  have htw := (show Two W g u v from h (twoS g u v) (by simp)).set a b
  have hbx := ((show TBox W w.heap.size x from h (boxS w.heap.size x) (by simp)).far (p := ⟨g, 0, none⟩) (Nat.ne_of_gt hg) a).far (p := ⟨g, 1, none⟩) (Nat.ne_of_gt hg) b
  have hbel := ((show Below w.heap.size w W from h (belS w) (by simp)).setCell (p := ⟨g, 0, none⟩) (Nat.le_of_lt hg) a).setCell (p := ⟨g, 1, none⟩) (Nat.le_of_lt hg) b
  exact Alive.cons (twoS g a b) htw (Alive.cons (boxS w.heap.size x) hbx (Alive.cons (tskS x) (hX _ hbel) (Alive.cons (lstS a2 c2 s) (hS _ hbel) (Alive.cons (lstS a3 c3 plan) (hL _ hbel) (Alive.cons tabS (hT _ hbel) (Alive.cons (belS w) hbel (Alive.nil _)))))))
set_option maxHeartbeats 8000000 in
theorem pspec_any (x : Tsk) (a2 a3 : Option Addr) (c2 c3 : Nat) (s plan : List Int) (w : World) (hX : TskIn w w.heap.size x) (hS : Lst w w.heap.size a2 c2 s) (hL : Lst w w.heap.size a3 c3 plan) (hT : TabIn w) :
    Calls Tryd.prog 4 #[.agg #[.int .i64 x.n, .slice x.ai x.init.length x.ci, .slice x.ag x.goal.length x.cg, .slice x.ao x.ops.length x.co], .slice a2 s.length c2, .slice a3 plan.length c3] w fun e w' => e = .returned (.bool true) ∧ Below w.heap.size w w' := by
  have hol := hX.len
  have hpl := hL.len
  unfold maxLen at hol hpl
  have HX0 := Lib.hid (fun (W : World) (h : Below w.heap.size w W) => hX.to h h.size)
  have HS0 := Lib.hid (fun (W : World) (h : Below w.heap.size w W) => hS.to h h.size)
  have HL0 := Lib.hid (fun (W : World) (h : Below w.heap.size w W) => hL.to h h.size)
  have HT0 := Lib.hid (fun (W : World) (h : Below w.heap.size w W) => hT.to h (Nat.le_refl _))
  have hP := Lib.hid (Alive.cons (boxS w.heap.size x) (tbox_new w x 25) ((Alive.cons (tskS x) hX (Alive.cons (lstS a2 c2 s) hS (Alive.cons (lstS a3 c3 plan) hL (Alive.cons tabS hT (Alive.cons (belS w) (Below.refl _ w) (Alive.nil w)))))).to ((Below.refl _ _).alloc (Nat.le_refl _) (.cells #[.int .i64 x.n, .slice x.ai x.init.length x.ci, .slice x.ag x.goal.length x.cg, .slice x.ao x.ops.length x.co] 25))))
  clear hX hS hL hT
  go_enter Tryd.func4, Tryd.ntmps4
  go_upto_region 6 with (first | (go_at_call 10; have hTb := Lib.hid (show TabIn _ from hP.out tabS (by simp)); (with_reducible refine (acts_any _ hTb.out).mono ?_); rintro e w1 ⟨rfl, hb⟩; have hP := Lib.hid (hP.out.to hb); clear hb; obtain ⟨_, t0, t1, t2, t3⟩ := (show TBox _ _ x from hP.out (boxS w.heap.size x) (by simp))) | (go_at_call 23; have hTk := Lib.hid (show TskIn _ _ x from hP.out (tskS x) (by simp)); have hLp := Lib.hid (show Lst _ _ a3 c3 plan from hP.out (lstS a3 c3 plan) (by simp)); (with_reducible refine (planFault_any x a3 c3 plan _ hTk.out hLp.out).mono ?_); rintro e wP ⟨rfl, hb⟩; have HWP := Lib.hid (show TBox wP w.heap.size x from (hP.out.to hb) (boxS w.heap.size x) (by simp)).lt; have hP := Lib.hid (Alive.cons (twoS wP.heap.size (.int .i64 (plF x plan).1) (.int .i64 (plF x plan).2)) (two_new wP _ _ 27) ((hP.out.to hb).to ((Below.refl _ _).alloc (Nat.le_refl _) _))); clear hb; obtain ⟨_, t0, t1, t2, t3⟩ := (show TBox _ _ x from hP.out (boxS w.heap.size x) (by simp))) | (go_at_call 24; have hTk := Lib.hid (show TskIn _ _ x from hP.out (tskS x) (by simp)); have hLp := Lib.hid (show Lst _ _ a3 c3 plan from hP.out (lstS a3 c3 plan) (by simp)); (with_reducible refine (ssolves_any x a3 c3 plan _ hTk.out hLp.out).mono ?_); rintro e wV ⟨rfl, hb⟩; have hP := Lib.hid (Alive.cons (twoS wV.heap.size (.int .i64 (plF x plan).1) (.int .i64 (plF x plan).2)) (two_new wV _ _ 27) ((hP.out.to hb).to ((Below.refl _ _).alloc (Nat.le_refl _) _))); clear hb; obtain ⟨_, t0, t1, t2, t3⟩ := (show TBox _ _ x from hP.out (boxS w.heap.size x) (by simp))) | (go_at_call 25; have hTk := Lib.hid (show TskIn _ _ x from hP.out (tskS x) (by simp)); have hLp := Lib.hid (show Lst _ _ a3 c3 plan from hP.out (lstS a3 c3 plan) (by simp)); (with_reducible refine (cost_any x a3 c3 plan _ hTk.out hLp.out).mono ?_); rintro e wC ⟨rfl, hb⟩; have hP := Lib.hid (Alive.cons (twoS wC.heap.size (.int .i64 (plF x plan).1) (.int .i64 (plF x plan).2)) (two_new wC _ _ 27) ((hP.out.to hb).to ((Below.refl _ _).alloc (Nat.le_refl _) _))); clear hb; obtain ⟨_, t0, t1, t2, t3⟩ := (show TBox _ _ x from hP.out (boxS w.heap.size x) (by simp))))
  obtain ⟨_, k0, k1, f0, f1⟩ := (show Two _ wP.heap.size _ _ from hP.out (twoS wP.heap.size (.int .i64 (plF x plan).1) (.int .i64 (plF x plan).2)) (by simp))
  obtain ⟨_, j0, j1, _, _⟩ := (show Two _ wV.heap.size _ _ from hP.out (twoS wV.heap.size (.int .i64 (plF x plan).1) (.int .i64 (plF x plan).2)) (by simp)); obtain ⟨_, j2, j3, _, _⟩ := (show Two _ wC.heap.size _ _ from hP.out (twoS wC.heap.size (.int .i64 (plF x plan).1) (.int .i64 (plF x plan).2)) (by simp))
  go_cut [8, 10, 77] from 20 to 76 (fun bb nn c wx => c = .bool false ∧ Alive [twoS wP.heap.size (.int .i64 (plF x plan).1) (.int .i64 (plF x plan).2), boxS w.heap.size x, tskS x, lstS a2 c2 s, lstS a3 c3 plan, tabS, belS w] wx)
  case first =>
    by_cases hf : (plF x plan).1 = 0
    case neg =>
      have q1 : ((plF x plan).1 == 0) = false := by simpa using hf
      have q2 : ((plF x plan).1 != 0) = true := by simpa using hf
      obtain ⟨e1, e2⟩ := svB_no hf
      clear hf
      rw [e1, e2]
      go_wp2
      go_meet
      exact ⟨rfl, Alive.cons (twoS wP.heap.size (.int .i64 (plF x plan).1) (.int .i64 (plF x plan).2)) (hP.out (twoS wP.heap.size (.int .i64 (plF x plan).1) (.int .i64 (plF x plan).2)) (by simp)) (Alive.cons (boxS w.heap.size x) (hP.out (boxS w.heap.size x) (by simp)) (Alive.cons (tskS x) (hP.out (tskS x) (by simp)) (Alive.cons (lstS a2 c2 s) (hP.out (lstS a2 c2 s) (by simp)) (Alive.cons (lstS a3 c3 plan) (hP.out (lstS a3 c3 plan) (by simp)) (Alive.cons tabS (hP.out tabS (by simp)) (Alive.cons (belS w) (hP.out (belS w) (by simp)) (Alive.nil _)))))))⟩
    case pos =>
      have q1 : ((plF x plan).1 == 0) = true := by simpa using hf
      have q2 : ((plF x plan).1 != 0) = false := by simpa using hf
      obtain ⟨e1, e2⟩ := svB_yes hf
      have HV := Lib.hid (plF_val hf)
      clear hf
      rw [e1, e2]
      go_wp2_with (first | (go_at_call 26; have hTk := Lib.hid (show TskIn _ _ x from hP.out (tskS x) (by simp)); have hLp := Lib.hid (show Lst _ _ a3 c3 plan from hP.out (lstS a3 c3 plan) (by simp)); (with_reducible refine (solves_any x x.n.toNat HV.out.1 a3 c3 plan HV.out.2.2 _ hTk.out hLp.out).mono ?_); rintro e wQ ⟨rfl, hb⟩; have hP := Lib.hid (hP.out.to hb); clear hb; obtain ⟨_, t0, t1, t2, t3⟩ := (show TBox _ _ x from hP.out (boxS w.heap.size x) (by simp)); obtain ⟨_, k0, k1, f0, f1⟩ := (show Two _ wP.heap.size _ _ from hP.out (twoS wP.heap.size (.int .i64 (plF x plan).1) (.int .i64 (plF x plan).2)) (by simp))) | (go_at_call 27; have hTk := Lib.hid (show TskIn _ _ x from hP.out (tskS x) (by simp)); have hLp := Lib.hid (show Lst _ _ a3 c3 plan from hP.out (lstS a3 c3 plan) (by simp)); (with_reducible refine (costOf_any x x.n.toNat HV.out.1 a3 c3 plan HV.out.2.1 HV.out.2.2 _ hTk.out hLp.out).mono ?_); rintro e wR ⟨rfl, hb⟩; have hP := Lib.hid (hP.out.to hb); clear hb; obtain ⟨_, t0, t1, t2, t3⟩ := (show TBox _ _ x from hP.out (boxS w.heap.size x) (by simp)); obtain ⟨_, k0, k1, f0, f1⟩ := (show Two _ wP.heap.size _ _ from hP.out (twoS wP.heap.size (.int .i64 (plF x plan).1) (.int .i64 (plF x plan).2)) (by simp))))
      go_meet
      exact ⟨rfl, Alive.cons (twoS wP.heap.size (.int .i64 (plF x plan).1) (.int .i64 (plF x plan).2)) (hP.out (twoS wP.heap.size (.int .i64 (plF x plan).1) (.int .i64 (plF x plan).2)) (by simp)) (Alive.cons (boxS w.heap.size x) (hP.out (boxS w.heap.size x) (by simp)) (Alive.cons (tskS x) (hP.out (tskS x) (by simp)) (Alive.cons (lstS a2 c2 s) (hP.out (lstS a2 c2 s) (by simp)) (Alive.cons (lstS a3 c3 plan) (hP.out (lstS a3 c3 plan) (by simp)) (Alive.cons tabS (hP.out tabS (by simp)) (Alive.cons (belS w) (hP.out (belS w) (by simp)) (Alive.nil _)))))))⟩
  case rest =>
    obtain ⟨rfl, ha⟩ := hcut
    have hP := Lib.hid ha
    clear ha t0 t1 t2 t3 k0 k1 f0 f1 j0 j1 j2 j3
    obtain ⟨_, t0, t1, t2, t3⟩ := (show TBox _ _ x from hP.out (boxS w.heap.size x) (by simp))
    obtain ⟨_, k0, k1, f0, f1⟩ := (show Two _ wP.heap.size _ _ from hP.out (twoS wP.heap.size (.int .i64 (plF x plan).1) (.int .i64 (plF x plan).2)) (by simp))
    go_upto_if 83 with (first | (go_at_call 9; have hTk := Lib.hid (show TskIn _ _ x from hP.out (tskS x) (by simp)); have hLs := Lib.hid (show Lst _ _ a2 c2 s from hP.out (lstS a2 c2 s) (by simp)); (with_reducible refine (stateFault_any x a2 c2 s _ hTk.out hLs.out).mono ?_); rintro e wS ⟨rfl, hb⟩; have hP := Lib.hid (hP.out.to hb); clear hb; obtain ⟨_, t0, t1, t2, t3⟩ := (show TBox _ _ x from hP.out (boxS w.heap.size x) (by simp)); obtain ⟨_, k0, k1, f0, f1⟩ := (show Two _ wP.heap.size _ _ from hP.out (twoS wP.heap.size (.int .i64 (plF x plan).1) (.int .i64 (plF x plan).2)) (by simp))))
    have hP := Lib.hid (alive_set HX0.out HS0.out HL0.out HT0.out HWP.out hP.out (.int .i64 (stF x s).1) (.int .i64 (stF x s).2))
    clear t0 t1 t2 t3 k0 k1 f0 f1
    generalize (wS.setCell ⟨wP.heap.size, 0, none⟩ (.int .i64 (stF x s).1)).setCell ⟨wP.heap.size, 1, none⟩ (.int .i64 (stF x s).2) = U1 at hP ⊢
    obtain ⟨_, t0, t1, t2, t3⟩ := (show TBox _ _ x from hP.out (boxS w.heap.size x) (by simp))
    obtain ⟨_, k0, k1, f0, f1⟩ := (show Two _ wP.heap.size _ _ from hP.out (twoS wP.heap.size (.int .i64 (stF x s).1) (.int .i64 (stF x s).2)) (by simp))
    go_cut [] from 78 to 88 (fun wx => Alive [twoS wP.heap.size (.int .i64 (ckF x s plan).1) (.int .i64 (ckF x s plan).2), boxS w.heap.size x, tskS x, lstS a2 c2 s, lstS a3 c3 plan, tabS, belS w] wx)
    case first =>
      by_cases hs : (stF x s).1 = 0
      case neg =>
        have q1 : ((stF x s).1 == 0) = false := by simpa using hs
        have HC := Lib.hid (ck_bad (plan := plan) hs)
        clear hs
        go_wp2
        go_meet
        rw [HC.out]
        exact hP.out
      case pos =>
        have q1 : ((stF x s).1 == 0) = true := by simpa using hs
        have HC := Lib.hid (show ckF x s plan = spF x.ops.length plan by unfold ckF; rw [if_neg (by simpa using hs)])
        clear hs
        go_wp2_with (first | (go_at_call 28; have hLp := Lib.hid (show Lst _ _ a3 c3 plan from hP.out (lstS a3 c3 plan) (by simp)); (with_reducible refine (stepsFault_any x.ops.length (by unfold maxLen; omega) a3 c3 plan _ hLp.out).mono ?_); rintro e wT ⟨rfl, hb⟩; have hP := Lib.hid (hP.out.to hb); clear hb; obtain ⟨_, t0, t1, t2, t3⟩ := (show TBox _ _ x from hP.out (boxS w.heap.size x) (by simp)); obtain ⟨_, k0, k1, f0, f1⟩ := (show Two _ wP.heap.size _ _ from hP.out (twoS wP.heap.size (.int .i64 (stF x s).1) (.int .i64 (stF x s).2)) (by simp))))
        have hP := Lib.hid (alive_set HX0.out HS0.out HL0.out HT0.out HWP.out hP.out (.int .i64 (spF x.ops.length plan).1) (.int .i64 (spF x.ops.length plan).2))
        go_meet
        rw [HC.out]
        exact hP.out
    case rest =>
      have hP := Lib.hid hcut
      clear hcut t0 t1 t2 t3 k0 k1 f0 f1
      go_upto_block 0 with fail
      go_cut [12, 13, 14] from 89 to 113 (fun i a b wx => ∃ k : Nat, i = .int .i64 k ∧ Alive [twoS wP.heap.size (.int .i64 (plyF x s plan).1) (.int .i64 (plyF x s plan).2), boxS w.heap.size x, tskS x, lstS a2 c2 s, lstS a3 c3 plan, tabS, belS w] wx)
      case first =>
        go_wp2_with fail
        go_loopw [12, 13, 14] (fun i a b wr => ∃ k : Nat, k ≤ plan.length ∧ i = .int .i64 k ∧ ∃ g1 g2 : Int, Alive [twoS wP.heap.size (.int .i64 g1) (.int .i64 g2), boxS w.heap.size x, tskS x, lstS a2 c2 s, lstS a3 c3 plan, tabS, belS w] wr ∧ LSt x s plan k g1 g2) (fun i _ _ _ => plan.length - (intOf i).toNat)
        case atStart => exact ⟨0, by omega, rfl, _, _, hP.out, LSt.start x s plan⟩
        case round =>
          obtain ⟨k, hk, rfl, g1, g2, hal, hst⟩ := hrel
          have hP := Lib.hid hal
          have HST := Lib.hid hst
          clear hal hst
          obtain ⟨_, t0, t1, t2, t3⟩ := (show TBox _ _ x from hP.out (boxS w.heap.size x) (by simp))
          obtain ⟨_, k0, k1, f0, f1⟩ := (show Two _ wP.heap.size _ _ from hP.out (twoS wP.heap.size (.int .i64 g1) (.int .i64 g2)) (by simp))
          by_cases hg : g1 = 0
          case neg =>
            have q1 : (g1 == 0) = false := by simpa using hg
            have HE := Lib.hid (HST.out.bad hg)
            clear hg
            by_cases hlt : k < plan.length
            all_goals
              go_wp2
              go_meet
              refine ⟨k, rfl, ?_⟩
              rw [HE.out]
              exact hP.out
          case pos =>
            obtain ⟨e2, hck, hso⟩ := HST.out.good hg
            subst hg e2
            by_cases hlt : k < plan.length
            case neg =>
              obtain rfl : k = plan.length := by omega
              have HE := Lib.hid (plyF_end hck hso)
              clear hck hso
              go_wp2
              go_meet
              refine ⟨_, rfl, ?_⟩
              rw [HE.out]
              exact hP.out
            case pos =>
              have HCK := Lib.hid hck
              have HSO2 := Lib.hid hso
              clear hck hso
              have HAL := Lib.hid (fun (V : World) (h : Below wr.heap.size wr V) => hP.out.to h)
              obtain ⟨b, o, rfl, _, _⟩ := (show Lst _ _ a3 c3 plan from hP.out (lstS a3 c3 plan) (by simp)).nums.at_ hlt
              have hcap := (show Lst _ _ _ c3 plan from hP.out (lstS (some ⟨b, o, none⟩) c3 plan) (by simp)).le
              have hmax := (show Lst _ _ _ c3 plan from hP.out (lstS (some ⟨b, o, none⟩) c3 plan) (by simp)).max
              have HSO := Lib.hid (fun (V : World) (h : Below wr.heap.size wr V) => (⟨(show TBox V w.heap.size x from HAL.out V h (boxS w.heap.size x) (by simp)).c0, (show TBox V w.heap.size x from HAL.out V h (boxS w.heap.size x) (by simp)).c1, (show TBox V w.heap.size x from HAL.out V h (boxS w.heap.size x) (by simp)).c2, (show TBox V w.heap.size x from HAL.out V h (boxS w.heap.size x) (by simp)).c3, h⟩ : V.cell? ⟨w.heap.size, 0, none⟩ = some (.int .i64 x.n) ∧ V.cell? ⟨w.heap.size, 1, none⟩ = some (.slice x.ai x.init.length x.ci) ∧ V.cell? ⟨w.heap.size, 2, none⟩ = some (.slice x.ag x.goal.length x.cg) ∧ V.cell? ⟨w.heap.size, 3, none⟩ = some (.slice x.ao x.ops.length x.co) ∧ Below wr.heap.size wr V))
              have HVL := Lib.hid (ck_val HCK.out)
              have hww := Below.refl wr.heap.size wr
              have hwk : IntKind.i64.wrap ((k : Int) + 1) = (k : Int) + 1 := IntWalk.i64_in _ (by omega)
              have hk1 : (k : Int) + 1 ≤ c3 := by omega
              have hk0 : (0 : Int) ≤ (k : Int) + 1 := by omega
              have hkn : ((k : Int) + 1).toNat = k + 1 := by omega
              clear hP hmax
              go_wp2
              cases hr : runTo x x.n.toNat s plan (k + 1)
              case none =>
                have HEn := Lib.hid (fun (V : World) (hX : TskIn V V.heap.size x) (hS : Lst V V.heap.size a2 c2 s) (hL : Lst V V.heap.size (some ⟨b, o, none⟩) c3 plan) => (by
                  have h := ends_take x x.n.toNat HVL.out.1 a2 _ c2 c3 s plan HVL.out.2.2.2 (k + 1) (by omega) V hX hS hL
                  rw [hr] at h
                  exact h : Calls Tryd.prog 29 #[.agg #[.int .i64 x.n, .slice x.ai x.init.length x.ci, .slice x.ag x.goal.length x.cg, .slice x.ao x.ops.length x.co], .slice a2 s.length c2, .slice (some ⟨b, o, none⟩) (k + 1) c3] V fun e w' => ∃ v, e = .returned (.tuple #[v, .bool false]) ∧ SliceOf w' v [] ∧ Below V.heap.size V w'))
                have HF := Lib.hid (plyF_stop HCK.out hlt HSO2.out hr)
                clear hr
                go_region_held3 (fun V => V.cell? ⟨w.heap.size, 0, none⟩ = some (.int .i64 x.n) ∧ V.cell? ⟨w.heap.size, 1, none⟩ = some (.slice x.ai x.init.length x.ci) ∧ V.cell? ⟨w.heap.size, 2, none⟩ = some (.slice x.ag x.goal.length x.cg) ∧ V.cell? ⟨w.heap.size, 3, none⟩ = some (.slice x.ao x.ops.length x.co) ∧ Below wr.heap.size wr V) (first | (refine ⟨?_, ?_, ?_, ?_, ?_⟩ <;> assumption) | (exact HSO.out _ hww.drew) | (exact HSO.out _ (bel_step (last5 (by assumption)) (by assumption)))) (first | (go_at_call 29; refine (HEn.out _ ?_ ?_ ?_).mono ?_; (exact (show TskIn _ _ x from HAL.out _ (last5 (by assumption)) (tskS x) (by simp))); (exact (show Lst _ _ a2 c2 s from HAL.out _ (last5 (by assumption)) (lstS a2 c2 s) (by simp))); (exact (show Lst _ _ _ c3 plan from HAL.out _ (last5 (by assumption)) (lstS (some ⟨b, o, none⟩) c3 plan) (by simp))); rintro e w' ⟨ve, rfl, hse, hb⟩))
                all_goals
                  have hP := Lib.hid (HAL.out w' (last5 (by assumption)))
                  obtain ⟨_, t0, t1, t2, t3⟩ := (show TBox _ _ x from hP.out (boxS w.heap.size x) (by simp))
                  obtain ⟨_, k0, k1, f0, f1⟩ := (show Two _ wP.heap.size _ _ from hP.out (twoS wP.heap.size (.int .i64 0) (.int .i64 0)) (by simp))
                  go_wp2_with (first | (go_at_call 17; refine (at_any _ _ _).mono ?_; rintro e wT ⟨rfl, hb⟩; have hP := Lib.hid (hP.out.to hb); clear hb; obtain ⟨_, t0, t1, t2, t3⟩ := (show TBox _ _ x from hP.out (boxS w.heap.size x) (by simp)); obtain ⟨_, k0, k1, f0, f1⟩ := (show Two _ wP.heap.size _ _ from hP.out (twoS wP.heap.size (.int .i64 0) (.int .i64 0)) (by simp))))
                  have hP := Lib.hid (alive_set HX0.out HS0.out HL0.out HT0.out HWP.out hP.out (.int .i64 11) (.int .i64 k))
                  go_roundw
                  case rel => exact ⟨k + 1, by omega, by go_num, 11, k, hP.out, .inr ⟨by decide, HF.out⟩⟩
                  case measure => simp [intOf]; omega
              case some t =>
                have HEn := Lib.hid (fun (V : World) (hX : TskIn V V.heap.size x) (hS : Lst V V.heap.size a2 c2 s) (hL : Lst V V.heap.size (some ⟨b, o, none⟩) c3 plan) => (by
                  have h := ends_take x x.n.toNat HVL.out.1 a2 _ c2 c3 s plan HVL.out.2.2.2 (k + 1) (by omega) V hX hS hL
                  rw [hr] at h
                  exact h : Calls Tryd.prog 29 #[.agg #[.int .i64 x.n, .slice x.ai x.init.length x.ci, .slice x.ag x.goal.length x.cg, .slice x.ao x.ops.length x.co], .slice a2 s.length c2, .slice (some ⟨b, o, none⟩) (k + 1) c3] V fun e w' => ∃ v, e = .returned (.tuple #[v, .bool true]) ∧ SliceOf w' v t ∧ Below V.heap.size V w'))
                have HF := Lib.hid (show LSt x s plan (k + 1) 0 0 from .inl ⟨rfl, rfl, HCK.out, by rw [hr]; rfl⟩)
                clear hr
                go_region_held3 (fun V => V.cell? ⟨w.heap.size, 0, none⟩ = some (.int .i64 x.n) ∧ V.cell? ⟨w.heap.size, 1, none⟩ = some (.slice x.ai x.init.length x.ci) ∧ V.cell? ⟨w.heap.size, 2, none⟩ = some (.slice x.ag x.goal.length x.cg) ∧ V.cell? ⟨w.heap.size, 3, none⟩ = some (.slice x.ao x.ops.length x.co) ∧ Below wr.heap.size wr V) (first | (refine ⟨?_, ?_, ?_, ?_, ?_⟩ <;> assumption) | (exact HSO.out _ hww.drew) | (exact HSO.out _ (bel_step (last5 (by assumption)) (by assumption)))) (first | (go_at_call 29; refine (HEn.out _ ?_ ?_ ?_).mono ?_; (exact (show TskIn _ _ x from HAL.out _ (last5 (by assumption)) (tskS x) (by simp))); (exact (show Lst _ _ a2 c2 s from HAL.out _ (last5 (by assumption)) (lstS a2 c2 s) (by simp))); (exact (show Lst _ _ _ c3 plan from HAL.out _ (last5 (by assumption)) (lstS (some ⟨b, o, none⟩) c3 plan) (by simp))); rintro e w' ⟨ve, rfl, hse, hb⟩))
                all_goals
                  have hP := Lib.hid (HAL.out w' (last5 (by assumption)))
                  go_wp2
                  go_roundw
                  case rel => exact ⟨k + 1, by omega, by go_num, 0, 0, hP.out, HF.out⟩
                  case measure => simp [intOf]; omega
      case rest =>
        obtain ⟨k, rfl, ha⟩ := hcut
        have hP := Lib.hid ha
        clear ha
        obtain ⟨_, t0, t1, t2, t3⟩ := (show TBox _ _ x from hP.out (boxS w.heap.size x) (by simp))
        obtain ⟨_, k0, k1, f0, f1⟩ := (show Two _ wP.heap.size _ _ from hP.out (twoS wP.heap.size (.int .i64 (plyF x s plan).1) (.int .i64 (plyF x s plan).2)) (by simp))
        by_cases hf : (plyF x s plan).1 = 0
        case neg =>
          have q1 : ((plyF x s plan).1 != 0) = true := by simpa using hf
          have hlen : (plyL x s plan).length = 0 := by rw [plyL_bad hf]; rfl
          clear hf
          go_wp2_with (first | (go_at_call 30; have hTk := Lib.hid (show TskIn _ _ x from hP.out (tskS x) (by simp)); have hLs := Lib.hid (show Lst _ _ a2 c2 s from hP.out (lstS a2 c2 s) (by simp)); have hLp := Lib.hid (show Lst _ _ a3 c3 plan from hP.out (lstS a3 c3 plan) (by simp)); have hTb := Lib.hid (show TabIn _ from hP.out tabS (by simp)); (with_reducible refine (play_any x a2 a3 c2 c3 s plan _ hTk.out hLs.out hLp.out hTb.out).mono ?_); rintro e wL ⟨vL, rfl, hs, hb⟩; obtain ⟨al, cl, rfl, hr⟩ := hs.set; have hP := Lib.hid (Alive.cons (twoS wL.heap.size (.int .i64 (plyF x s plan).1) (.int .i64 (plyF x s plan).2)) (two_new wL _ _ 27) ((Alive.cons (r2S al cl (plyL x s plan)) hr (hP.out.to hb)).to ((Below.refl _ _).alloc (Nat.le_refl _) _))); clear hr hs hb; obtain ⟨_, t0, t1, t2, t3⟩ := (show TBox _ _ x from hP.out (boxS w.heap.size x) (by simp)); obtain ⟨_, k0, k1, f0, f1⟩ := (show Two _ wP.heap.size _ _ from hP.out (twoS wP.heap.size (.int .i64 (plyF x s plan).1) (.int .i64 (plyF x s plan).2)) (by simp))))
          go_ret; exact ⟨rfl, hP.out (belS w) (by simp)⟩
        case pos =>
          have q1 : ((plyF x s plan).1 != 0) = false := by simpa using hf
          have hck := (plyF_zero hf).2.1
          have HLN := Lib.hid (plyL_len hf)
          have HAT := Lib.hid (fun (j : Nat) (hj : j ≤ plan.length) => plyL_at hf hj)
          have HVL := Lib.hid (ck_val hck)
          clear hf hck
          go_wp2_with (first | (go_at_call 30; have hTk := Lib.hid (show TskIn _ _ x from hP.out (tskS x) (by simp)); have hLs := Lib.hid (show Lst _ _ a2 c2 s from hP.out (lstS a2 c2 s) (by simp)); have hLp := Lib.hid (show Lst _ _ a3 c3 plan from hP.out (lstS a3 c3 plan) (by simp)); have hTb := Lib.hid (show TabIn _ from hP.out tabS (by simp)); (with_reducible refine (play_any x a2 a3 c2 c3 s plan _ hTk.out hLs.out hLp.out hTb.out).mono ?_); rintro e wL ⟨vL, rfl, hs, hb⟩; obtain ⟨al, cl, rfl, hr⟩ := hs.set; have hP := Lib.hid (Alive.cons (twoS wL.heap.size (.int .i64 (plyF x s plan).1) (.int .i64 (plyF x s plan).2)) (two_new wL _ _ 27) ((Alive.cons (r2S al cl (plyL x s plan)) hr (hP.out.to hb)).to ((Below.refl _ _).alloc (Nat.le_refl _) _))); clear hr hs hb; obtain ⟨_, t0, t1, t2, t3⟩ := (show TBox _ _ x from hP.out (boxS w.heap.size x) (by simp)); obtain ⟨_, k0, k1, f0, f1⟩ := (show Two _ wP.heap.size _ _ from hP.out (twoS wP.heap.size (.int .i64 (plyF x s plan).1) (.int .i64 (plyF x s plan).2)) (by simp))))
          generalize wL.alloc (.cells #[.int .i64 (plyF x s plan).1, .int .i64 (plyF x s plan).2] 27) = U5 at hP ⊢
          have HAL5 := Lib.hid (fun (V : World) (h : Below U5.heap.size U5 V) => hP.out.to h)
          clear hP t0 t1 t2 t3 k0 k1 f0 f1
          go_loopw [17, 18, 19] (fun i a b wr => ∃ k : Nat, k ≤ (plyL x s plan).length ∧ i = .int .i64 k ∧ Below U5.heap.size U5 wr) (fun i _ _ _ => (plyL x s plan).length - (intOf i).toNat)
          case atStart => exact ⟨0, by omega, rfl, Below.refl _ _⟩
          case round =>
            obtain ⟨j, hj, rfl, hbe⟩ := hrel
            have hP := Lib.hid (HAL5.out wr hbe)
            have HBE := Lib.hid hbe
            clear hbe
            obtain ⟨_, t0, t1, t2, t3⟩ := (show TBox _ _ x from hP.out (boxS w.heap.size x) (by simp))
            have hl1 := HLN.out
            have h60 := HVL.out.2.2.1
            by_cases hlt : j < (plyL x s plan).length
            case neg =>
              have hjl : ¬ ((j : Int) < (plyL x s plan).length) := by omega
              have hll : ((plyL x s plan).length : Int) = plan.length + 1 := by omega
              have hwr : IntKind.i64.wrap ((plan.length : Int) + 1) = plan.length + 1 := IntWalk.i64_in _ (by omega)
              clear hl1
              go_wp2
              go_ret; exact ⟨rfl, hP.out (belS w) (by simp)⟩
            case pos =>
              have hjp : j ≤ plan.length := by omega
              have HAL := Lib.hid (fun (V : World) (h : Below wr.heap.size wr V) => hP.out.to h)
              have hcap := (show Lst _ _ a3 c3 plan from hP.out (lstS a3 c3 plan) (by simp)).le
              have HSO := Lib.hid (fun (V : World) (h : Below wr.heap.size wr V) => (⟨(show TBox V w.heap.size x from HAL.out V h (boxS w.heap.size x) (by simp)).c0, (show TBox V w.heap.size x from HAL.out V h (boxS w.heap.size x) (by simp)).c1, (show TBox V w.heap.size x from HAL.out V h (boxS w.heap.size x) (by simp)).c2, (show TBox V w.heap.size x from HAL.out V h (boxS w.heap.size x) (by simp)).c3, h⟩ : V.cell? ⟨w.heap.size, 0, none⟩ = some (.int .i64 x.n) ∧ V.cell? ⟨w.heap.size, 1, none⟩ = some (.slice x.ai x.init.length x.ci) ∧ V.cell? ⟨w.heap.size, 2, none⟩ = some (.slice x.ag x.goal.length x.cg) ∧ V.cell? ⟨w.heap.size, 3, none⟩ = some (.slice x.ao x.ops.length x.co) ∧ Below wr.heap.size wr V))
              have hww := Below.refl wr.heap.size wr
              have hk1 : (j : Int) ≤ c3 := by omega
              have hk0 : (0 : Int) ≤ j := by omega
              have hjl : (j : Int) < (plyL x s plan).length := by omega
              have HEn := Lib.hid (fun (V : World) (hX : TskIn V V.heap.size x) (hS : Lst V V.heap.size a2 c2 s) (hL : Lst V V.heap.size a3 c3 plan) => (by
                have h := ends_take x x.n.toNat HVL.out.1 a2 a3 c2 c3 s plan HVL.out.2.2.2 j hjp V hX hS hL
                rw [HAT.out j hjp] at h
                exact h : Calls Tryd.prog 29 #[.agg #[.int .i64 x.n, .slice x.ai x.init.length x.ci, .slice x.ag x.goal.length x.cg, .slice x.ao x.ops.length x.co], .slice a2 s.length c2, .slice a3 j c3] V fun e w' => ∃ v, e = .returned (.tuple #[v, .bool true]) ∧ SliceOf w' v (rw_ (plyL x s plan) j) ∧ Below V.heap.size V w'))
              have HLP := Lib.hid (fun (V : World) (h : Below wr.heap.size wr V) => (show Lst _ _ a3 c3 plan from HAL.out V h (lstS a3 c3 plan) (by simp)))
              clear hP hl1
              go_wp2
              rcases a3 with _ | ad
              all_goals
                go_region_held3 (fun V => V.cell? ⟨w.heap.size, 0, none⟩ = some (.int .i64 x.n) ∧ V.cell? ⟨w.heap.size, 1, none⟩ = some (.slice x.ai x.init.length x.ci) ∧ V.cell? ⟨w.heap.size, 2, none⟩ = some (.slice x.ag x.goal.length x.cg) ∧ V.cell? ⟨w.heap.size, 3, none⟩ = some (.slice x.ao x.ops.length x.co) ∧ Below wr.heap.size wr V) (first | (refine ⟨?_, ?_, ?_, ?_, ?_⟩ <;> assumption) | (exact HSO.out _ hww.drew) | (exact HSO.out _ (bel_step (last5 (by assumption)) (by assumption)))) (first | (go_at_call 29; refine (HEn.out _ ?_ ?_ ?_).mono ?_; (exact (show TskIn _ _ x from HAL.out _ (last5 (by assumption)) (tskS x) (by simp))); (exact (show Lst _ _ a2 c2 s from HAL.out _ (last5 (by assumption)) (lstS a2 c2 s) (by simp))); (exact HLP.out _ (last5 (by assumption))); rintro e w' ⟨ve, rfl, hse, hb⟩; obtain ⟨ae, ce, rfl, hle⟩ := hse.set; have HLE := Lib.hid hle; clear hle hse))
              all_goals
                have hP := Lib.hid (HAL.out w' (last5 (by assumption)))
                have HBW := Lib.hid (show Below wr.heap.size wr w' from last5 (by assumption))
                obtain ⟨bl, ol, aj, cj, rfl, _, qj, lj⟩ := (show R2 _ al cl (plyL x s plan) from hP.out (r2S al cl (plyL x s plan)) (by simp)).rws.at_ hlt
                have HLJ := Lib.hid lj
                clear lj
                go_wp2_with (first | (go_at_call 15; (with_reducible refine (ints_same aj ae cj ce (rw_ (plyL x s plan) j) (rw_ (plyL x s plan) j) rfl _ HLJ.out HLE.out).mono ?_); rintro e wI ⟨rfl, hb⟩; have HBI := Lib.hid hb; clear hb))
                go_roundw
                case rel => exact ⟨j + 1, by omega, by go_num, bel_step (bel_step HBE.out HBW.out) HBI.out⟩
                case measure => simp [intOf]; omega
end Go.Proofs.YtdgolaegbdadlaaDoor
