/- The law StripsMoreFactsKeepPlans: the walk. -/
import Derived.Test.YtdgolaegbdadlaaDoorKpz
namespace Go.Proofs.YtdgolaegbdadlaaDoor
open Go.RowKit
set_option linter.unusedSimpArgs false
set_option linter.unusedVariables false
set_option maxRecDepth 100000

/-- A slice of rows. -/
structure R2 (W : World) (a : Option Addr) (c : Nat) (ls : List (List Int)) : Prop where
  rws : Rws W W.heap.size a ls
  le : ls.length ≤ c
  max : c ≤ maxLen
theorem R2.to {W W' : World} {a : Option Addr} {c : Nat} {ls : List (List Int)} (h : R2 W a c ls) (hb : Below W.heap.size W W') : R2 W' a c ls := ⟨h.rws.to hb hb.size, h.le, h.max⟩
theorem SliceOf2.set {W : World} {v : Value} {ls : List (List Int)} (h : SliceOf2 W v ls) : ∃ a c, v = .slice a ls.length c ∧ R2 W a c ls := by
  obtain ⟨a, c, rfl, h1, h2, h3⟩ := h
  exact ⟨a, c, rfl, h1, h2, h3⟩
theorem Fresh2.set {W : World} {base : Nat} {v : Value} {ls : List (List Int)} (h : Fresh2 W base v ls) : ∃ a c, v = .slice a ls.length c ∧ R2 W a c ls := h.slice.set
def r2S (a : Option Addr) (c : Nat) (ls : List (List Int)) : SP := ⟨fun W => R2 W a c ls, fun _ _ hb h => h.to hb⟩
/-- The operators before k delete nothing. -/
def NoDel (x : Tsk) (k : Nat) : Prop := ∀ j, j < k → (opr x.ops j).del = []
theorem NoDel.succ {x : Tsk} {k : Nat} (h : NoDel x k) (h0 : (opr x.ops k).del = []) : NoDel x (k + 1) := fun j hj => by
  by_cases e : j = k
  · subst e; exact h0
  · exact h j (by omega)
theorem ply_len40 {x : Tsk} {s plan : List Int} (h : (plyF x s plan).1 = 0) : x.ops.length ≤ 40 := (ck_val (plyF_zero h).2.1).1.len

set_option maxHeartbeats 8000000 in
theorem moreFacts_any (x : Tsk) (a2 a3 a4 : Option Addr) (c2 c3 c4 : Nat) (s more plan : List Int) (w : World) (hX : TskIn w w.heap.size x) (hS : Lst w w.heap.size a2 c2 s) (hM : Lst w w.heap.size a3 c3 more) (hL : Lst w w.heap.size a4 c4 plan) (hT : TabIn w) :
    Calls Tryd.prog 8 #[.agg #[.int .i64 x.n, .slice x.ai x.init.length x.ci, .slice x.ag x.goal.length x.cg, .slice x.ao x.ops.length x.co], .slice a2 s.length c2, .slice a3 more.length c3, .slice a4 plan.length c4] w fun e w' => e = .returned (.bool true) ∧ Below w.heap.size w w' := by
  have hol := hX.len
  unfold maxLen at hol
  have hP := Lib.hid (Alive.cons (boxS w.heap.size x) (tbox_new w x 25) ((Alive.cons (tskS x) hX (Alive.cons (lstS a2 c2 s) hS (Alive.cons (lstS a3 c3 more) hM (Alive.cons (lstS a4 c4 plan) hL (Alive.cons tabS hT (Alive.cons (belS w) (Below.refl _ w) (Alive.nil w))))))).to ((Below.refl _ _).alloc (Nat.le_refl _) (.cells #[.int .i64 x.n, .slice x.ai x.init.length x.ci, .slice x.ag x.goal.length x.cg, .slice x.ao x.ops.length x.co] 25))))
  clear hX hS hM hL hT
  have hfld := run_code
  go_enter Tryd.func8, Tryd.ntmps8
  go_wp2_with ((go_at_call 10; have hTb := Lib.hid (show TabIn _ from hP.out tabS (by simp)); (with_reducible refine (acts_any _ hTb.out).mono ?_); rintro e w1 ⟨rfl, hb⟩; have hP := Lib.hid (hP.out.to hb); clear hb; obtain ⟨_, t0, t1, t2, t3⟩ := (show TBox _ _ x from hP.out (boxS w.heap.size x) (by simp))))
  go_loop [9] (fun i => ∃ k : Nat, k ≤ x.ops.length ∧ i = .int .i64 k ∧ NoDel x k) (fun i => x.ops.length - (intOf i).toNat)
  case atStart => exact ⟨0, by omega, rfl, fun j hj => by omega⟩
  case round =>
    obtain ⟨k, hk, rfl, hd⟩ := hrel
    have HD := Lib.hid hd
    clear hd
    by_cases hlt : k < x.ops.length
    · by_cases h41 : k < 41
      · have hTk := Lib.hid (show TskIn _ _ x from hP.out (tskS x) (by simp))
        obtain ⟨b, p, a1, a2', a3', c1, c2', c3', hao, hbl, ⟨q0, q1, q2, q3⟩, hOV⟩ := hTk.out.ops.at_ hlt
        rw [hao] at t3 ⊢
        by_cases hl : (opr x.ops k).del.length = 0
        · have HE := Lib.hid (HD.out.succ (List.eq_nil_of_length_eq_zero hl))
          go_wp2
          go_round
          case rel => exact ⟨k + 1, by omega, by go_num, HE.out⟩
          case measure => simp [intOf]; omega
        · have hl : 0 < (opr x.ops k).del.length := by omega
          go_wp2
          go_ret
          exact ⟨rfl, hP.out (belS w) (by simp)⟩
      · have hf : ¬ (plyF x s plan).1 = 0 := fun h => by have := ply_len40 h; omega
        have hne : ((plyF x s plan).1 != 0) = true := by simpa using hf
        have hne2 : ((plyF x s plan).1 == 0) = false := by simpa using hf
        have hlen : (plyL x s plan).length = 0 := by rw [plyL_bad hf]; rfl
        have h41' : ¬ ((k : Int) < 41) := by omega
        clear hf
        go_wp2_with (first | (go_at_call 30; have hTk := Lib.hid (show TskIn _ _ x from hP.out (tskS x) (by simp)); have hLs := Lib.hid (show Lst _ _ a2 c2 s from hP.out (lstS a2 c2 s) (by simp)); have hLp := Lib.hid (show Lst _ _ a4 c4 plan from hP.out (lstS a4 c4 plan) (by simp)); have hTb := Lib.hid (show TabIn _ from hP.out tabS (by simp)); (with_reducible refine (play_any x a2 a4 c2 c4 s plan _ hTk.out hLs.out hLp.out hTb.out).mono ?_); rintro e wX ⟨vX, rfl, hs, hb⟩; obtain ⟨ax, cx, rfl, hr⟩ := hs.set; have hP := Lib.hid (Alive.cons (twoS wX.heap.size (.int .i64 (plyF x s plan).1) (.int .i64 (plyF x s plan).2)) (two_new wX _ _ 27) ((Alive.cons (r2S ax cx (plyL x s plan)) hr (hP.out.to hb)).to ((Below.refl _ _).alloc (Nat.le_refl _) _))); clear hr hs hb; obtain ⟨_, t0, t1, t2, t3⟩ := (show TBox _ _ x from hP.out (boxS w.heap.size x) (by simp))) | (go_at_call 30; have hTk := Lib.hid (show TskIn _ _ x from hP.out (tskS x) (by simp)); have hLm := Lib.hid (show Lst _ _ a3 c3 more from hP.out (lstS a3 c3 more) (by simp)); have hLp := Lib.hid (show Lst _ _ a4 c4 plan from hP.out (lstS a4 c4 plan) (by simp)); have hTb := Lib.hid (show TabIn _ from hP.out tabS (by simp)); (with_reducible refine (play_any x a3 a4 c3 c4 more plan _ hTk.out hLm.out hLp.out hTb.out).mono ?_); rintro e wY ⟨vY, rfl, hs, hb⟩; obtain ⟨ay, cy, rfl, hr⟩ := hs.set; have hP := Lib.hid (Alive.cons (twoS wY.heap.size (.int .i64 (plyF x more plan).1) (.int .i64 (plyF x more plan).2)) (two_new wY _ _ 27) ((Alive.cons (r2S ay cy (plyL x more plan)) hr (hP.out.to hb)).to ((Below.refl _ _).alloc (Nat.le_refl _) _))); clear hr hs hb; obtain ⟨_, t0, t1, t2, t3⟩ := (show TBox _ _ x from hP.out (boxS w.heap.size x) (by simp)); obtain ⟨_, k0, k1, f0, f1⟩ := (show Two _ wX.heap.size _ _ from hP.out (twoS wX.heap.size (.int .i64 (plyF x s plan).1) (.int .i64 (plyF x s plan).2)) (by simp))))
        go_ret; exact ⟨rfl, hP.out (belS w) (by simp)⟩
    · have hge : ¬ ((k : Int) < x.ops.length) := by omega
      by_cases hf : (plyF x s plan).1 = 0
      case neg =>
        have hne : ((plyF x s plan).1 != 0) = true := by simpa using hf
        have hne2 : ((plyF x s plan).1 == 0) = false := by simpa using hf
        have hlen : (plyL x s plan).length = 0 := by rw [plyL_bad hf]; rfl
        clear hf
        go_wp2_with (first | (go_at_call 30; have hTk := Lib.hid (show TskIn _ _ x from hP.out (tskS x) (by simp)); have hLs := Lib.hid (show Lst _ _ a2 c2 s from hP.out (lstS a2 c2 s) (by simp)); have hLp := Lib.hid (show Lst _ _ a4 c4 plan from hP.out (lstS a4 c4 plan) (by simp)); have hTb := Lib.hid (show TabIn _ from hP.out tabS (by simp)); (with_reducible refine (play_any x a2 a4 c2 c4 s plan _ hTk.out hLs.out hLp.out hTb.out).mono ?_); rintro e wX ⟨vX, rfl, hs, hb⟩; obtain ⟨ax, cx, rfl, hr⟩ := hs.set; have hP := Lib.hid (Alive.cons (twoS wX.heap.size (.int .i64 (plyF x s plan).1) (.int .i64 (plyF x s plan).2)) (two_new wX _ _ 27) ((Alive.cons (r2S ax cx (plyL x s plan)) hr (hP.out.to hb)).to ((Below.refl _ _).alloc (Nat.le_refl _) _))); clear hr hs hb; obtain ⟨_, t0, t1, t2, t3⟩ := (show TBox _ _ x from hP.out (boxS w.heap.size x) (by simp))) | (go_at_call 30; have hTk := Lib.hid (show TskIn _ _ x from hP.out (tskS x) (by simp)); have hLm := Lib.hid (show Lst _ _ a3 c3 more from hP.out (lstS a3 c3 more) (by simp)); have hLp := Lib.hid (show Lst _ _ a4 c4 plan from hP.out (lstS a4 c4 plan) (by simp)); have hTb := Lib.hid (show TabIn _ from hP.out tabS (by simp)); (with_reducible refine (play_any x a3 a4 c3 c4 more plan _ hTk.out hLm.out hLp.out hTb.out).mono ?_); rintro e wY ⟨vY, rfl, hs, hb⟩; obtain ⟨ay, cy, rfl, hr⟩ := hs.set; have hP := Lib.hid (Alive.cons (twoS wY.heap.size (.int .i64 (plyF x more plan).1) (.int .i64 (plyF x more plan).2)) (two_new wY _ _ 27) ((Alive.cons (r2S ay cy (plyL x more plan)) hr (hP.out.to hb)).to ((Below.refl _ _).alloc (Nat.le_refl _) _))); clear hr hs hb; obtain ⟨_, t0, t1, t2, t3⟩ := (show TBox _ _ x from hP.out (boxS w.heap.size x) (by simp)); obtain ⟨_, k0, k1, f0, f1⟩ := (show Two _ wX.heap.size _ _ from hP.out (twoS wX.heap.size (.int .i64 (plyF x s plan).1) (.int .i64 (plyF x s plan).2)) (by simp))))
        go_ret; exact ⟨rfl, hP.out (belS w) (by simp)⟩
      have hne : ((plyF x s plan).1 != 0) = false := by simpa using hf
      have hne2 : ((plyF x s plan).1 == 0) = true := by simpa using hf
      by_cases hm : (stF x more).1 = 0
      case neg =>
        have hme : ((stF x more).1 != 0) = true := by simpa using hm
        clear hf hm
        go_wp2_with (first | (go_at_call 30; have hTk := Lib.hid (show TskIn _ _ x from hP.out (tskS x) (by simp)); have hLs := Lib.hid (show Lst _ _ a2 c2 s from hP.out (lstS a2 c2 s) (by simp)); have hLp := Lib.hid (show Lst _ _ a4 c4 plan from hP.out (lstS a4 c4 plan) (by simp)); have hTb := Lib.hid (show TabIn _ from hP.out tabS (by simp)); (with_reducible refine (play_any x a2 a4 c2 c4 s plan _ hTk.out hLs.out hLp.out hTb.out).mono ?_); rintro e wX ⟨vX, rfl, hs, hb⟩; obtain ⟨ax, cx, rfl, hr⟩ := hs.set; have hP := Lib.hid (Alive.cons (twoS wX.heap.size (.int .i64 (plyF x s plan).1) (.int .i64 (plyF x s plan).2)) (two_new wX _ _ 27) ((Alive.cons (r2S ax cx (plyL x s plan)) hr (hP.out.to hb)).to ((Below.refl _ _).alloc (Nat.le_refl _) _))); clear hr hs hb; obtain ⟨_, t0, t1, t2, t3⟩ := (show TBox _ _ x from hP.out (boxS w.heap.size x) (by simp))) | (go_at_call 30; have hTk := Lib.hid (show TskIn _ _ x from hP.out (tskS x) (by simp)); have hLm := Lib.hid (show Lst _ _ a3 c3 more from hP.out (lstS a3 c3 more) (by simp)); have hLp := Lib.hid (show Lst _ _ a4 c4 plan from hP.out (lstS a4 c4 plan) (by simp)); have hTb := Lib.hid (show TabIn _ from hP.out tabS (by simp)); (with_reducible refine (play_any x a3 a4 c3 c4 more plan _ hTk.out hLm.out hLp.out hTb.out).mono ?_); rintro e wY ⟨vY, rfl, hs, hb⟩; obtain ⟨ay, cy, rfl, hr⟩ := hs.set; have hP := Lib.hid (Alive.cons (twoS wY.heap.size (.int .i64 (plyF x more plan).1) (.int .i64 (plyF x more plan).2)) (two_new wY _ _ 27) ((Alive.cons (r2S ay cy (plyL x more plan)) hr (hP.out.to hb)).to ((Below.refl _ _).alloc (Nat.le_refl _) _))); clear hr hs hb; obtain ⟨_, t0, t1, t2, t3⟩ := (show TBox _ _ x from hP.out (boxS w.heap.size x) (by simp)); obtain ⟨_, k0, k1, f0, f1⟩ := (show Two _ wX.heap.size _ _ from hP.out (twoS wX.heap.size (.int .i64 (plyF x s plan).1) (.int .i64 (plyF x s plan).2)) (by simp))) | (go_at_call 9; have hTk := Lib.hid (show TskIn _ _ x from hP.out (tskS x) (by simp)); have hLm := Lib.hid (show Lst _ _ a3 c3 more from hP.out (lstS a3 c3 more) (by simp)); (with_reducible refine (stateFault_any x a3 c3 more _ hTk.out hLm.out).mono ?_); rintro e wS ⟨rfl, hb⟩; have hP := Lib.hid (hP.out.to hb); clear hb; obtain ⟨_, t0, t1, t2, t3⟩ := (show TBox _ _ x from hP.out (boxS w.heap.size x) (by simp)); obtain ⟨_, k0, k1, f0, f1⟩ := (show Two _ wX.heap.size _ _ from hP.out (twoS wX.heap.size (.int .i64 (plyF x s plan).1) (.int .i64 (plyF x s plan).2)) (by simp))))
        go_ret; exact ⟨rfl, hP.out (belS w) (by simp)⟩
      have hme : ((stF x more).1 != 0) = false := by simpa using hm
      cases hsub : subB s more
      case false =>
        clear hf hm
        go_wp2_with (first | (go_at_call 30; have hTk := Lib.hid (show TskIn _ _ x from hP.out (tskS x) (by simp)); have hLs := Lib.hid (show Lst _ _ a2 c2 s from hP.out (lstS a2 c2 s) (by simp)); have hLp := Lib.hid (show Lst _ _ a4 c4 plan from hP.out (lstS a4 c4 plan) (by simp)); have hTb := Lib.hid (show TabIn _ from hP.out tabS (by simp)); (with_reducible refine (play_any x a2 a4 c2 c4 s plan _ hTk.out hLs.out hLp.out hTb.out).mono ?_); rintro e wX ⟨vX, rfl, hs, hb⟩; obtain ⟨ax, cx, rfl, hr⟩ := hs.set; have hP := Lib.hid (Alive.cons (twoS wX.heap.size (.int .i64 (plyF x s plan).1) (.int .i64 (plyF x s plan).2)) (two_new wX _ _ 27) ((Alive.cons (r2S ax cx (plyL x s plan)) hr (hP.out.to hb)).to ((Below.refl _ _).alloc (Nat.le_refl _) _))); clear hr hs hb; obtain ⟨_, t0, t1, t2, t3⟩ := (show TBox _ _ x from hP.out (boxS w.heap.size x) (by simp))) | (go_at_call 30; have hTk := Lib.hid (show TskIn _ _ x from hP.out (tskS x) (by simp)); have hLm := Lib.hid (show Lst _ _ a3 c3 more from hP.out (lstS a3 c3 more) (by simp)); have hLp := Lib.hid (show Lst _ _ a4 c4 plan from hP.out (lstS a4 c4 plan) (by simp)); have hTb := Lib.hid (show TabIn _ from hP.out tabS (by simp)); (with_reducible refine (play_any x a3 a4 c3 c4 more plan _ hTk.out hLm.out hLp.out hTb.out).mono ?_); rintro e wY ⟨vY, rfl, hs, hb⟩; obtain ⟨ay, cy, rfl, hr⟩ := hs.set; have hP := Lib.hid (Alive.cons (twoS wY.heap.size (.int .i64 (plyF x more plan).1) (.int .i64 (plyF x more plan).2)) (two_new wY _ _ 27) ((Alive.cons (r2S ay cy (plyL x more plan)) hr (hP.out.to hb)).to ((Below.refl _ _).alloc (Nat.le_refl _) _))); clear hr hs hb; obtain ⟨_, t0, t1, t2, t3⟩ := (show TBox _ _ x from hP.out (boxS w.heap.size x) (by simp)); obtain ⟨_, k0, k1, f0, f1⟩ := (show Two _ wX.heap.size _ _ from hP.out (twoS wX.heap.size (.int .i64 (plyF x s plan).1) (.int .i64 (plyF x s plan).2)) (by simp))) | (go_at_call 9; have hTk := Lib.hid (show TskIn _ _ x from hP.out (tskS x) (by simp)); have hLm := Lib.hid (show Lst _ _ a3 c3 more from hP.out (lstS a3 c3 more) (by simp)); (with_reducible refine (stateFault_any x a3 c3 more _ hTk.out hLm.out).mono ?_); rintro e wS ⟨rfl, hb⟩; have hP := Lib.hid (hP.out.to hb); clear hb; obtain ⟨_, t0, t1, t2, t3⟩ := (show TBox _ _ x from hP.out (boxS w.heap.size x) (by simp)); obtain ⟨_, k0, k1, f0, f1⟩ := (show Two _ wX.heap.size _ _ from hP.out (twoS wX.heap.size (.int .i64 (plyF x s plan).1) (.int .i64 (plyF x s plan).2)) (by simp))) | (go_at_call 31; have hLs := Lib.hid (show Lst _ _ a2 c2 s from hP.out (lstS a2 c2 s) (by simp)); have hLm := Lib.hid (show Lst _ _ a3 c3 more from hP.out (lstS a3 c3 more) (by simp)); (with_reducible refine (subset_any a2 a3 c2 c3 s more _ hLs.out.nums hLm.out.nums hLs.out.len hLm.out.len).mono ?_); rw [hsub]; rintro e w' ⟨rfl, rfl⟩))
        go_ret; exact ⟨rfl, hP.out (belS w) (by simp)⟩
      obtain ⟨m1, m2, m3⟩ := more_ok (fun j hj => HD.out j (by omega)) hf hm hsub
      have hlx := plyL_len hf
      have M3 := Lib.hid m3
      have M1 := Lib.hid m1
      have M2 := Lib.hid m2
      have HLX := Lib.hid hlx
      clear hf hm m1 m2 m3 hlx
      go_wp2_with (first | (go_at_call 30; have hTk := Lib.hid (show TskIn _ _ x from hP.out (tskS x) (by simp)); have hLs := Lib.hid (show Lst _ _ a2 c2 s from hP.out (lstS a2 c2 s) (by simp)); have hLp := Lib.hid (show Lst _ _ a4 c4 plan from hP.out (lstS a4 c4 plan) (by simp)); have hTb := Lib.hid (show TabIn _ from hP.out tabS (by simp)); (with_reducible refine (play_any x a2 a4 c2 c4 s plan _ hTk.out hLs.out hLp.out hTb.out).mono ?_); rintro e wX ⟨vX, rfl, hs, hb⟩; obtain ⟨ax, cx, rfl, hr⟩ := hs.set; have hP := Lib.hid (Alive.cons (twoS wX.heap.size (.int .i64 (plyF x s plan).1) (.int .i64 (plyF x s plan).2)) (two_new wX _ _ 27) ((Alive.cons (r2S ax cx (plyL x s plan)) hr (hP.out.to hb)).to ((Below.refl _ _).alloc (Nat.le_refl _) _))); clear hr hs hb; obtain ⟨_, t0, t1, t2, t3⟩ := (show TBox _ _ x from hP.out (boxS w.heap.size x) (by simp))) | (go_at_call 30; have hTk := Lib.hid (show TskIn _ _ x from hP.out (tskS x) (by simp)); have hLm := Lib.hid (show Lst _ _ a3 c3 more from hP.out (lstS a3 c3 more) (by simp)); have hLp := Lib.hid (show Lst _ _ a4 c4 plan from hP.out (lstS a4 c4 plan) (by simp)); have hTb := Lib.hid (show TabIn _ from hP.out tabS (by simp)); (with_reducible refine (play_any x a3 a4 c3 c4 more plan _ hTk.out hLm.out hLp.out hTb.out).mono ?_); rintro e wY ⟨vY, rfl, hs, hb⟩; obtain ⟨ay, cy, rfl, hr⟩ := hs.set; have hP := Lib.hid (Alive.cons (twoS wY.heap.size (.int .i64 (plyF x more plan).1) (.int .i64 (plyF x more plan).2)) (two_new wY _ _ 27) ((Alive.cons (r2S ay cy (plyL x more plan)) hr (hP.out.to hb)).to ((Below.refl _ _).alloc (Nat.le_refl _) _))); clear hr hs hb; obtain ⟨_, t0, t1, t2, t3⟩ := (show TBox _ _ x from hP.out (boxS w.heap.size x) (by simp)); obtain ⟨_, k0, k1, f0, f1⟩ := (show Two _ wX.heap.size _ _ from hP.out (twoS wX.heap.size (.int .i64 (plyF x s plan).1) (.int .i64 (plyF x s plan).2)) (by simp))) | (go_at_call 9; have hTk := Lib.hid (show TskIn _ _ x from hP.out (tskS x) (by simp)); have hLm := Lib.hid (show Lst _ _ a3 c3 more from hP.out (lstS a3 c3 more) (by simp)); (with_reducible refine (stateFault_any x a3 c3 more _ hTk.out hLm.out).mono ?_); rintro e wS ⟨rfl, hb⟩; have hP := Lib.hid (hP.out.to hb); clear hb; obtain ⟨_, t0, t1, t2, t3⟩ := (show TBox _ _ x from hP.out (boxS w.heap.size x) (by simp)); obtain ⟨_, k0, k1, f0, f1⟩ := (show Two _ wX.heap.size _ _ from hP.out (twoS wX.heap.size (.int .i64 (plyF x s plan).1) (.int .i64 (plyF x s plan).2)) (by simp))) | (go_at_call 31; have hLs := Lib.hid (show Lst _ _ a2 c2 s from hP.out (lstS a2 c2 s) (by simp)); have hLm := Lib.hid (show Lst _ _ a3 c3 more from hP.out (lstS a3 c3 more) (by simp)); (with_reducible refine (subset_any a2 a3 c2 c3 s more _ hLs.out.nums hLm.out.nums hLs.out.len hLm.out.len).mono ?_); rw [hsub]; rintro e w' ⟨rfl, rfl⟩))
      have hX2 := (show R2 _ ax cx (plyL x s plan) from hP.out (r2S ax cx (plyL x s plan)) (by simp))
      have hY2 := (show R2 _ ay cy (plyL x more plan) from hP.out (r2S ay cy (plyL x more plan)) (by simp))
      have hpl : plan.length < 9223372036854775807 := by
        have q1 := hX2.le
        have q2 := hX2.max
        unfold maxLen at q2
        rw [HLX.out] at q1
        omega
      obtain ⟨bx, ox, akx, ckx, rfl, _, qx, lx⟩ := hX2.rws.at_ (k := plan.length) (by rw [HLX.out]; omega)
      obtain ⟨by_, oy, aky, cky, rfl, _, qy, ly⟩ := hY2.rws.at_ (k := plan.length) (by rw [M2.out]; omega)
      have hLx := Lib.hid lx
      have hLy := Lib.hid ly
      have hBe := Lib.hid (show Below w.heap.size w _ from hP.out (belS w) (by simp))
      obtain ⟨_, l0, l1, _, _⟩ := (show Two _ wY.heap.size _ _ from hP.out (twoS wY.heap.size (.int .i64 (plyF x more plan).1) (.int .i64 (plyF x more plan).2)) (by simp))
      rw [M1.out] at l0
      clear hP hX2 hY2 lx ly
      rw [HLX.out, M2.out]
      go_quiet ((go_at_call 31; (with_reducible refine quiet_same (subset_any akx aky ckx cky _ _ _ ?_ ?_ hLx.out.len hLy.out.len)); exact hLx.out.nums; exact hLy.out.nums))
      rw [M3.out]
      go_wp2
      go_ret
      exact ⟨rfl, belowN hBe.out _⟩
end Go.Proofs.YtdgolaegbdadlaaDoor
