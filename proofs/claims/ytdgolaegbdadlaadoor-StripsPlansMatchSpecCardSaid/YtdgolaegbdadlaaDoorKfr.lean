/- The law StripsFrame: the walk. -/
import Derived.Test.YtdgolaegbdadlaaDoorKlr
namespace Go.Proofs.YtdgolaegbdadlaaDoor
open Go.RowKit
set_option linter.unusedSimpArgs false
set_option linter.unusedVariables false
set_option maxRecDepth 100000

theorem ayF_zero {x : Tsk} {s : List Int} {op : Int} (h : (ayF x s op).1 = 0) : (stF x s).1 = 0 ∧ 0 ≤ op ∧ op < x.ops.length ∧ subB (opn x op).pre s = true := by
  unfold ayF at h
  by_cases hc : (ckF x s [op]).1 = 0
  · obtain ⟨_, h1, h2, h3⟩ := ckF_op hc
    rw [if_neg (by simpa using hc)] at h
    refine ⟨h1, h2, h3, ?_⟩
    cases hp : subB (opn x op).pre s
    · rw [hp] at h; simp at h
    · rfl
  · rw [if_pos hc] at h
    exact absurd h hc
theorem ayL_bad {x : Tsk} {s : List Int} {op : Int} (h : (ayF x s op).1 ≠ 0) : ayL x s op = [] := by
  unfold ayL
  rw [if_neg h]
theorem ayL_good {x : Tsk} {s : List Int} {op : Int} (h : (ayF x s op).1 = 0) : ayL x s op = aftL x.n.toNat (opn x op).add (opn x op).del s := by
  unfold ayL
  rw [if_pos h]
theorem ayL_mem {x : Tsk} {s : List Int} {op : Int} (h : (ayF x s op).1 = 0) (y : Int) : y ∈ ayL x s op ↔ y ∈ (opn x op).add ∨ (y ∈ s ∧ y ∉ (opn x op).del) := by
  obtain ⟨h1, h2, h3, _⟩ := ayF_zero h
  obtain ⟨hv, hss⟩ := stF_val h1
  rw [ayL_good h]
  exact mem_aftL (op_val hv h2 h3).1.add hss
/-- An operator changes only what it adds or deletes. -/
theorem fr_keep {x : Tsk} {s : List Int} {op : Int} (h : (ayF x s op).1 = 0) {y : Int} (h1 : hasB (opn x op).add y = false) (h2 : hasB (opn x op).del y = false) : hasB (ayL x s op) y = hasB s y := by
  unfold hasB at *
  rw [decide_eq_false_iff_not] at h1 h2
  rw [decide_eq_decide, ayL_mem h]
  constructor
  · rintro (h3 | ⟨h3, _⟩)
    · exact absurd h3 h1
    · exact h3
  · intro h3
    exact .inr ⟨h3, h2⟩
theorem fr_add {x : Tsk} {s : List Int} {op : Int} (h : (ayF x s op).1 = 0) : subB (opn x op).add (ayL x s op) = true :=
  subB_iff.2 fun y hy => (ayL_mem h y).2 (.inl hy)
theorem fr_del {x : Tsk} {s : List Int} {op : Int} (h : (ayF x s op).1 = 0) : disB (opn x op).del (ayL x s op) = true := by
  obtain ⟨h1, h2, h3, _⟩ := ayF_zero h
  have hd := (op_val (stF_val h1).1 h2 h3).2
  rw [disB_iff] at hd
  exact disB_iff.2 fun y hy hn => by
    rcases (ayL_mem h y).1 hn with h4 | h4
    · exact hd y h4 hy
    · exact h4.2 hy

set_option maxHeartbeats 8000000 in
theorem frame_any (x : Tsk) (a2 : Option Addr) (c2 : Nat) (s : List Int) (op : Int) (w : World) (hX : TskIn w w.heap.size x) (hS : Lst w w.heap.size a2 c2 s) (hT : TabIn w) :
    Calls Tryd.prog 5 #[.agg #[.int .i64 x.n, .slice x.ai x.init.length x.ci, .slice x.ag x.goal.length x.cg, .slice x.ao x.ops.length x.co], .slice a2 s.length c2, .int .i64 op] w fun e w' => e = .returned (.bool true) ∧ Below w.heap.size w w' := by
  have hol := hX.len
  unfold maxLen at hol
  have hP := Lib.hid (Alive.cons (boxS w.heap.size x) (tbox_new w x 25) ((Alive.cons (tskS x) hX (Alive.cons (lstS a2 c2 s) hS (Alive.cons tabS hT (Alive.cons (belS w) (Below.refl _ w) (Alive.nil w))))).to ((Below.refl _ _).alloc (Nat.le_refl _) (.cells #[.int .i64 x.n, .slice x.ai x.init.length x.ci, .slice x.ag x.goal.length x.cg, .slice x.ao x.ops.length x.co] 25))))
  clear hX hS hT
  by_cases h1 : (ayF x s op).1 = 0
  case neg =>
    have hne : ((ayF x s op).1 != 0) = true := by simpa using h1
    have hlen : (ayL x s op).length = 0 := by rw [ayL_bad h1]; rfl
    clear h1
    go_enter Tryd.func5, Tryd.ntmps5
    go_wp2_with (first | (go_at_call 18; have hTk := Lib.hid (show TskIn _ _ x from hP.out (tskS x) (by simp)); have hLs := Lib.hid (show Lst _ _ a2 c2 s from hP.out (lstS a2 c2 s) (by simp)); have hTb := Lib.hid (show TabIn _ from hP.out tabS (by simp)); (with_reducible refine (apply_any x a2 c2 s op _ hTk.out hLs.out hTb.out).mono ?_); rintro e wA ⟨vA, rfl, hs, hb⟩; obtain ⟨aa, ca, rfl, hl⟩ := hs.set; have hP := Lib.hid (Alive.cons (twoS wA.heap.size (.int .i64 (ayF x s op).1) (.int .i64 (ayF x s op).2)) (two_new wA _ _ 27) ((Alive.cons (lstS aa ca (ayL x s op)) hl (hP.out.to hb)).to ((Below.refl _ _).alloc (Nat.le_refl _) _))); clear hl hs hb; obtain ⟨_, t0, t1, t2, t3⟩ := (show TBox _ _ x from hP.out (boxS w.heap.size x) (by simp))) | (go_at_call 10; have hTb := Lib.hid (show TabIn _ from hP.out tabS (by simp)); (with_reducible refine (acts_any _ hTb.out).mono ?_); rintro e w1 ⟨rfl, hb⟩; have hP := Lib.hid (hP.out.to hb); clear hb; obtain ⟨_, k0, k1, f0, f1⟩ := (show Two _ wA.heap.size _ _ from hP.out (twoS wA.heap.size (.int .i64 (ayF x s op).1) (.int .i64 (ayF x s op).2)) (by simp)); obtain ⟨_, t0, t1, t2, t3⟩ := (show TBox _ _ x from hP.out (boxS w.heap.size x) (by simp))))
    go_ret
    exact ⟨rfl, hP.out (belS w) (by simp)⟩
  have hne : ((ayF x s op).1 != 0) = false := by simpa using h1
  obtain ⟨q1, q2, q3, _⟩ := ayF_zero h1
  obtain ⟨k, rfl⟩ := Int.eq_ofNat_of_zero_le q2
  have hlt : k < x.ops.length := by omega
  obtain ⟨n, hnn, hn24⟩ : ∃ n : Nat, x.n = (n : Int) ∧ n ≤ 24 := ⟨_, (stF_val q1).1.eq, (stF_val q1).1.le⟩
  have HN := Lib.hid hnn
  clear hnn
  have HK := Lib.hid (fun (y : Int) => (fr_keep (y := y) h1 : hasB (opr x.ops k).add y = false → hasB (opr x.ops k).del y = false → hasB (ayL x s k) y = hasB s y))
  have HA := Lib.hid (show subB (opr x.ops k).add (ayL x s k) = true from fr_add h1)
  have HD := Lib.hid (show disB (opr x.ops k).del (ayL x s k) = true from fr_del h1)
  clear h1 q1 q2 q3
  go_enter Tryd.func5, Tryd.ntmps5
  go_wp2_with (first | (go_at_call 18; have hTk := Lib.hid (show TskIn _ _ x from hP.out (tskS x) (by simp)); have hLs := Lib.hid (show Lst _ _ a2 c2 s from hP.out (lstS a2 c2 s) (by simp)); have hTb := Lib.hid (show TabIn _ from hP.out tabS (by simp)); (with_reducible refine (apply_any x a2 c2 s (k : Int) _ hTk.out hLs.out hTb.out).mono ?_); rintro e wA ⟨vA, rfl, hs, hb⟩; obtain ⟨aa, ca, rfl, hl⟩ := hs.set; have hP := Lib.hid (Alive.cons (twoS wA.heap.size (.int .i64 (ayF x s (k : Int)).1) (.int .i64 (ayF x s (k : Int)).2)) (two_new wA _ _ 27) ((Alive.cons (lstS aa ca (ayL x s (k : Int))) hl (hP.out.to hb)).to ((Below.refl _ _).alloc (Nat.le_refl _) _))); clear hl hs hb; obtain ⟨_, t0, t1, t2, t3⟩ := (show TBox _ _ x from hP.out (boxS w.heap.size x) (by simp))) | (go_at_call 10; have hTb := Lib.hid (show TabIn _ from hP.out tabS (by simp)); (with_reducible refine (acts_any _ hTb.out).mono ?_); rintro e w1 ⟨rfl, hb⟩; have hP := Lib.hid (hP.out.to hb); clear hb; obtain ⟨_, k0, k1, f0, f1⟩ := (show Two _ wA.heap.size _ _ from hP.out (twoS wA.heap.size (.int .i64 (ayF x s (k : Int)).1) (.int .i64 (ayF x s (k : Int)).2)) (by simp)); obtain ⟨_, t0, t1, t2, t3⟩ := (show TBox _ _ x from hP.out (boxS w.heap.size x) (by simp))))
  have hAA := Lib.hid (show Lst _ _ aa ca (ayL x s k) from hP.out (lstS aa ca (ayL x s k)) (by simp))
  have hLs := Lib.hid (show Lst _ _ a2 c2 s from hP.out (lstS a2 c2 s) (by simp))
  have hBe := Lib.hid (show Below w.heap.size w _ from hP.out (belS w) (by simp))
  have hTk := Lib.hid (show TskIn _ _ x from hP.out (tskS x) (by simp))
  obtain ⟨b, p, a1, a2', a3', c1, c2', c3', hao, hbl, ⟨q0, q1, q2, q3⟩, hOV⟩ := hTk.out.ops.at_ hlt
  have HOV := Lib.hid hOV
  clear hOV
  rw [hao]
  have HX := Lib.hid (hP.out.to ((Below.refl _ _).alloc (Nat.le_refl _) (.cells #[.slice a1 (opr x.ops k).pre.length c1, .slice a2' (opr x.ops k).add.length c2', .slice a3' (opr x.ops k).del.length c3', .int .i64 (opr x.ops k).cost] 42)))
  have HU := Lib.hid (⟨by simp, by simp, by simp, by simp⟩ : OpC (w1.alloc (.cells #[.slice a1 (opr x.ops k).pre.length c1, .slice a2' (opr x.ops k).add.length c2', .slice a3' (opr x.ops k).del.length c3', .int .i64 (opr x.ops k).cost] 42)) w1.heap.size 0 (opr x.ops k) a1 a2' a3' c1 c2' c3')
  have HOU := Lib.hid (HOV.out.to ((Below.refl _ _).alloc (Nat.le_refl _) (.cells #[.slice a1 (opr x.ops k).pre.length c1, .slice a2' (opr x.ops k).add.length c2', .slice a3' (opr x.ops k).del.length c3', .int .i64 (opr x.ops k).cost] 42)) (show w1.heap.size ≤ (w1.alloc (.cells #[.slice a1 (opr x.ops k).pre.length c1, .slice a2' (opr x.ops k).add.length c2', .slice a3' (opr x.ops k).del.length c3', .int .i64 (opr x.ops k).cost] 42)).heap.size by simp))
  clear hP HOV
  go_simp
  go_wp2
  generalize w1.alloc (.cells #[.slice a1 (opr x.ops k).pre.length c1, .slice a2' (opr x.ops k).add.length c2', .slice a3' (opr x.ops k).del.length c3', .int .i64 (opr x.ops k).cost] 42) = U at HX HU HOU ⊢
  clear q0 q1 q2 q3 k0 k1 f0 f1 t0 t1 t2 t3 hAA hLs hBe hTk
  obtain ⟨_, t0, t1, t2, t3⟩ := (show TBox _ _ x from HX.out (boxS w.heap.size x) (by simp))
  obtain ⟨q0, q1, q2, q3⟩ := HU.out
  have hAA := Lib.hid (show Lst _ _ aa ca (ayL x s k) from HX.out (lstS aa ca (ayL x s k)) (by simp))
  have hLs := Lib.hid (show Lst _ _ a2 c2 s from HX.out (lstS a2 c2 s) (by simp))
  have hBe := Lib.hid (show Below w.heap.size w _ from HX.out (belS w) (by simp))
  go_loop [10] (fun i => ∃ p : Nat, p ≤ n ∧ i = .int .i64 p) (fun i => n - (intOf i).toNat)
  case atStart => exact ⟨0, by omega, rfl⟩
  case round =>
    obtain ⟨j, hj, rfl⟩ := hrel
    rw [HN.out] at t0
    by_cases hjn : j < n
    · cases e1 : hasB (opr x.ops k).add j
      case true =>
        go_wp2_with (first | (go_at_call 22; (with_reducible refine (has_any a2' c2' (opr x.ops k).add j U HOU.out.add.nums HOU.out.add.len).mono ?_); rw [e1]; rintro e w' ⟨rfl, rfl⟩))
        go_round
        case rel => exact ⟨j + 1, by omega, by go_num⟩
        case measure => simp [intOf]; omega
      cases e2 : hasB (opr x.ops k).del j
      case true =>
        go_wp2_with (first | (go_at_call 22; (with_reducible refine (has_any a2' c2' (opr x.ops k).add j U HOU.out.add.nums HOU.out.add.len).mono ?_); rw [e1]; rintro e w' ⟨rfl, rfl⟩) | (go_at_call 22; (with_reducible refine (has_any a3' c3' (opr x.ops k).del j U HOU.out.del.nums HOU.out.del.len).mono ?_); rw [e2]; rintro e w' ⟨rfl, rfl⟩))
        go_round
        case rel => exact ⟨j + 1, by omega, by go_num⟩
        case measure => simp [intOf]; omega
      have e3 := HK.out j e1 e2
      cases e4 : hasB s j <;> rw [e4] at e3
      all_goals
        go_wp2_with (first | (go_at_call 22; (with_reducible refine (has_any a2' c2' (opr x.ops k).add j U HOU.out.add.nums HOU.out.add.len).mono ?_); rw [e1]; rintro e w' ⟨rfl, rfl⟩) | (go_at_call 22; (with_reducible refine (has_any a3' c3' (opr x.ops k).del j U HOU.out.del.nums HOU.out.del.len).mono ?_); rw [e2]; rintro e w' ⟨rfl, rfl⟩) | (go_at_call 22; (with_reducible refine (has_any a2 c2 s j U hLs.out.nums hLs.out.len).mono ?_); rw [e4]; rintro e w' ⟨rfl, rfl⟩) | (go_at_call 22; (with_reducible refine (has_any aa ca (ayL x s k) j U hAA.out.nums hAA.out.len).mono ?_); rw [e3]; rintro e w' ⟨rfl, rfl⟩))
        go_round
        case rel => exact ⟨j + 1, by omega, by go_num⟩
        case measure => simp [intOf]; omega
    · go_wp2_with (first | (go_at_call 31; (with_reducible refine (subset_any a2' aa c2' ca (opr x.ops k).add (ayL x s k) U HOU.out.add.nums hAA.out.nums HOU.out.add.len hAA.out.len).mono ?_); rw [HA.out]; rintro e w' ⟨rfl, rfl⟩) | (go_at_call 21; (with_reducible refine (disjoint_any a3' aa c3' ca (opr x.ops k).del (ayL x s k) U HOU.out.del.nums hAA.out.nums HOU.out.del.len hAA.out.len).mono ?_); rw [HD.out]; rintro e w' ⟨rfl, rfl⟩))
      go_ret
      exact ⟨rfl, hBe.out⟩
end Go.Proofs.YtdgolaegbdadlaaDoor
