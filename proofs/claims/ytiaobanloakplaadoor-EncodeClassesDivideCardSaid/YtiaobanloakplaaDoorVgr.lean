/- Vex, Vli, Vgr in one text. -/
import Derived.Test.YtiaobanloakplaaDoorVfd
import Derived.Test.YtiaobanloakplaaDoorNb
import Derived.Deep.RegionHeld3

/- The closed example of the laws on tasks: steps. -/
section
namespace Go.Proofs.YtiaobanloakplaaDoor
open Go.RowKit
set_option linter.unusedSimpArgs false
set_option linter.unusedVariables false
set_option maxRecDepth 100000

def exOps : List Opr := [⟨[0], [1], [0], 2⟩, ⟨[1], [2], [1], 3⟩]
/-- The task of the closed example. -/
structure IsEx (x : Tsk) : Prop where
  n : x.n = 3
  init : x.init = [0]
  goal : x.goal = [2]
  ops : x.ops = exOps
def StepsPost (w : World) (e : Ending) (w' : World) : Prop := ∃ x : Tsk, e = .returned (.agg #[.int .i64 x.n, .slice x.ai x.init.length x.ci, .slice x.ag x.goal.length x.cg, .slice x.ao x.ops.length x.co]) ∧ IsEx x ∧ TskIn w' w'.heap.size x ∧ Below w.heap.size w w'

theorem ex_in {W : World} {g : Nat} (hz : W.heap.size = g + 1 + 1 + 1 + 1 + 1 + 1 + 1 + 1 + 1 + 1) (h1 : W.cell? ⟨g + 1, 0, none⟩ = some (.int .i64 0)) (h2 : W.cell? ⟨g + 1 + 1, 0, none⟩ = some (.int .i64 2)) (h3 : W.cell? ⟨g + 1 + 1 + 1, 0, none⟩ = some (.int .i64 0)) (h4 : W.cell? ⟨g + 1 + 1 + 1 + 1, 0, none⟩ = some (.int .i64 1)) (h5 : W.cell? ⟨g + 1 + 1 + 1 + 1 + 1, 0, none⟩ = some (.int .i64 0)) (h6 : W.cell? ⟨g + 1 + 1 + 1 + 1 + 1 + 1, 0, none⟩ = some (.int .i64 1)) (h7 : W.cell? ⟨g + 1 + 1 + 1 + 1 + 1 + 1 + 1, 0, none⟩ = some (.int .i64 2)) (h8 : W.cell? ⟨g + 1 + 1 + 1 + 1 + 1 + 1 + 1 + 1, 0, none⟩ = some (.int .i64 1)) (o0 : W.cell? ⟨g + 1 + 1 + 1 + 1 + 1 + 1 + 1 + 1 + 1, 0, none⟩ = some (.slice (some ⟨g + 1 + 1 + 1, 0, none⟩) 1 1)) (o1 : W.cell? ⟨g + 1 + 1 + 1 + 1 + 1 + 1 + 1 + 1 + 1, 1, none⟩ = some (.slice (some ⟨g + 1 + 1 + 1 + 1, 0, none⟩) 1 1)) (o2 : W.cell? ⟨g + 1 + 1 + 1 + 1 + 1 + 1 + 1 + 1 + 1, 2, none⟩ = some (.slice (some ⟨g + 1 + 1 + 1 + 1 + 1, 0, none⟩) 1 1)) (o3 : W.cell? ⟨g + 1 + 1 + 1 + 1 + 1 + 1 + 1 + 1 + 1, 3, none⟩ = some (.int .i64 2)) (o4 : W.cell? ⟨g + 1 + 1 + 1 + 1 + 1 + 1 + 1 + 1 + 1, 4, none⟩ = some (.slice (some ⟨g + 1 + 1 + 1 + 1 + 1 + 1, 0, none⟩) 1 1)) (o5 : W.cell? ⟨g + 1 + 1 + 1 + 1 + 1 + 1 + 1 + 1 + 1, 5, none⟩ = some (.slice (some ⟨g + 1 + 1 + 1 + 1 + 1 + 1 + 1, 0, none⟩) 1 1)) (o6 : W.cell? ⟨g + 1 + 1 + 1 + 1 + 1 + 1 + 1 + 1 + 1, 6, none⟩ = some (.slice (some ⟨g + 1 + 1 + 1 + 1 + 1 + 1 + 1 + 1, 0, none⟩) 1 1)) (o7 : W.cell? ⟨g + 1 + 1 + 1 + 1 + 1 + 1 + 1 + 1 + 1, 7, none⟩ = some (.int .i64 3)) :
    TskIn W W.heap.size ⟨3, [0], [2], exOps, some ⟨g + 1, 0, none⟩, some ⟨g + 1 + 1, 0, none⟩, some ⟨g + 1 + 1 + 1 + 1 + 1 + 1 + 1 + 1 + 1, 0, none⟩, 1, 1, 2⟩ := by
  have l : ∀ {a : Nat} {v : Int}, a < g + 1 + 1 + 1 + 1 + 1 + 1 + 1 + 1 + 1 + 1 → W.cell? ⟨a, 0, none⟩ = some (.int .i64 v) → Lst W W.heap.size (some ⟨a, 0, none⟩) 1 [v] := fun ha h => lst_cell (by omega) h (by omega) (by simp [maxLen])
  refine ⟨l (by omega) h1, l (by omega) h2, fun _ => ⟨_, 0, rfl, by omega, fun k hk => ?_⟩, by simp [exOps], by simp [maxLen]⟩
  match k, hk with
  | 0, _ => exact ⟨_, _, _, 1, 1, 1, ⟨o0, o1, o2, o3⟩, ⟨l (by omega) h3, l (by omega) h4, l (by omega) h5⟩⟩
  | 1, _ => exact ⟨_, _, _, 1, 1, 1, ⟨o4, o5, o6, o7⟩, ⟨l (by omega) h6, l (by omega) h7, l (by omega) h8⟩⟩

set_option maxHeartbeats 2000000 in
theorem steps_any (w : World) : Calls Tryd.prog 41 #[] w (StepsPost w) := by
  go_enter Tryd.func41, Tryd.ntmps41
  go_wp2
  go_returns
  refine ⟨⟨3, [0], [2], exOps, some ⟨w.heap.size + 1, 0, none⟩, some ⟨w.heap.size + 1 + 1, 0, none⟩, some ⟨w.heap.size + 1 + 1 + 1 + 1 + 1 + 1 + 1 + 1 + 1, 0, none⟩, 1, 1, 2⟩, rfl, ⟨rfl, rfl, rfl, rfl⟩, ?_, by go_grown⟩
  refine ex_in (g := w.heap.size) ?_ ?_ ?_ ?_ ?_ ?_ ?_ ?_ ?_ ?_ ?_ ?_ ?_ ?_ ?_ ?_ ?_
  all_goals (first | (simp; done) | (go_simp; done) | (simp [go_sem]; done))
end Go.Proofs.YtiaobanloakplaaDoor
end

/- The reference's Lists. -/
section
namespace Go.Proofs.YtiaobanloakplaaDoor
open Go.RowKit
set_option linter.unusedSimpArgs false
set_option linter.unusedVariables false
set_option maxRecDepth 100000

def eqLL (a b : List (List Int)) : Bool := decide (a.length = b.length) && (List.range a.length).all (fun k => eqL (rw_ a k) (rw_ b k))
theorem eqLL_len {a b : List (List Int)} (h : a.length ≠ b.length) : eqLL a b = false := by unfold eqLL; rw [decide_eq_false h]; rfl
theorem eqLL_bad {a b : List (List Int)} {k : Nat} (hk : k < a.length) (h : eqL (rw_ a k) (rw_ b k) = false) : eqLL a b = false := by
  unfold eqLL
  rw [Bool.and_eq_false_iff]
  right
  rw [List.all_eq_false]
  exact ⟨k, by simpa using hk, by simp [h]⟩
theorem eqLL_good {a b : List (List Int)} (h : a.length = b.length) (hk : ∀ k, k < a.length → eqL (rw_ a k) (rw_ b k) = true) : eqLL a b = true := by
  unfold eqLL
  rw [decide_eq_true h, Bool.true_and, List.all_eq_true]
  exact fun k h => hk k (by simpa using h)
theorem quiet_addn (w : World) (n m : Nat) : (w.drewN n).drewN m = w.drewN (n + m) := by simp [World.drewN, Nat.add_assoc]
set_option maxHeartbeats 2000000 in
theorem lists_any (A B : Option Addr) (c d : Nat) (a b : List (List Int)) (w : World) (hA : Rws w w.heap.size A a) (hB : Rws w w.heap.size B b) (hla : a.length ≤ maxLen) (hlb : b.length ≤ maxLen) :
    Calls Tryd.prog 11 #[.slice A a.length c, .slice B b.length d] w fun e w' => e = .returned (.bool (eqLL a b)) ∧ Below w.heap.size w w' := by
  unfold maxLen at hla hlb
  have HA := Lib.hid (fun (W : World) (h : Below w.heap.size w W) => hA.to h h.size)
  have HB := Lib.hid (fun (W : World) (h : Below w.heap.size w W) => hB.to h h.size)
  clear hA hB
  by_cases hl : a.length = b.length
  case neg =>
    have H := Lib.hid (eqLL_len hl)
    have d1 : ((a.length : Int) != (b.length : Int)) = true := by simp; omega
    have d2 : ((a.length : Int) == (b.length : Int)) = false := by simp; omega
    go_enter Tryd.func11, Tryd.ntmps11
    go_wp2
    go_ret
    exact ⟨by rw [H.out]; rfl, Below.refl _ _⟩
  have d1 : ((a.length : Int) != (b.length : Int)) = false := by simp; omega
  have d2 : ((a.length : Int) == (b.length : Int)) = true := by simp; omega
  go_enter Tryd.func11, Tryd.ntmps11
  go_wp2
  go_loopw [5] (fun i wr => ∃ k : Nat, k ≤ a.length ∧ i = .int .i64 k ∧ Below w.heap.size w wr ∧ ∀ j, j < k → eqL (rw_ a j) (rw_ b j) = true) (fun i _ => a.length - (intOf i).toNat)
  case atStart => exact ⟨0, by omega, rfl, Below.refl _ _, by omega⟩
  case round =>
    obtain ⟨k, hk, rfl, hbw, hj⟩ := hrel
    have HJ := Lib.hid hj
    have HW := Lib.hid hbw
    clear hj hbw
    by_cases hlt : k < a.length
    case neg =>
      have hge : ¬ ((k : Int) < a.length) := by omega
      have H := Lib.hid (eqLL_good hl (fun j hj => HJ.out j (by omega)))
      go_wp2
      go_ret
      exact ⟨by rw [H.out]; rfl, HW.out⟩
    have hltb : k < b.length := by omega
    obtain ⟨b1, o1, ak, ck, rfl, hb1, hc1, hl1⟩ := (HA.out _ HW.out).at_ hlt
    obtain ⟨b2, o2, bk, dk, rfl, hb2, hc2, hl2⟩ := (HB.out _ HW.out).at_ hltb
    have HI := Lib.hid (fun n : Nat => intsq_any ak bk ck dk (rw_ a k) (rw_ b k) (wr.drewN n) (hl1.to (belowN (Below.refl wr.heap.size wr) n) (belowN (Below.refl wr.heap.size wr) n).size).nums (hl2.to (belowN (Below.refl wr.heap.size wr) n) (belowN (Below.refl wr.heap.size wr) n).size).nums hl1.len hl2.len)
    clear hl1 hl2
    cases he : eqL (rw_ a k) (rw_ b k)
    · rw [he] at HI
      have H := Lib.hid (eqLL_bad hlt he)
      clear he
      go_wp2
      go_quiet (first | (go_at_call 16; (with_reducible refine (HI.out _).mono ?_); rintro e w' ⟨rfl, nn, rfl⟩; exact ⟨rfl, _, quiet_addn _ _ _⟩))
      go_wp2
      go_ret
      exact ⟨by rw [H.out]; rfl, belowN HW.out _⟩
    · rw [he] at HI
      have HE := Lib.hid he
      clear he
      go_wp2
      go_quiet (first | (go_at_call 16; (with_reducible refine (HI.out _).mono ?_); rintro e w' ⟨rfl, nn, rfl⟩; exact ⟨rfl, _, quiet_addn _ _ _⟩))
      go_wp2
      go_roundw
      case rel => exact ⟨k + 1, by omega, by go_num, belowN HW.out _, all_step (p := fun j => eqL (rw_ a j) (rw_ b j) = true) HJ.out HE.out⟩
      case measure => simp [intOf]; omega
end Go.Proofs.YtiaobanloakplaaDoor
end

/- The closed example of package invariant: groups is true. -/
section
namespace Go.Proofs.YtiaobanloakplaaDoor
open Go.RowKit
set_option linter.unusedSimpArgs false
set_option linter.unusedVariables false
set_option maxRecDepth 100000

section
variable {x : Tsk}
theorem IsEx.eq (h : IsEx x) : ∃ ai ag ao ci cg co, x = ⟨3, [0], [2], exOps, ai, ag, ao, ci, cg, co⟩ := by
  obtain ⟨n, init, goal, ops, ai, ag, ao, ci, cg, co⟩ := x
  obtain ⟨h1, h2, h3, h4⟩ := h
  simp only at h1 h2 h3 h4
  subst h1 h2 h3 h4
  exact ⟨ai, ag, ao, ci, cg, co, rfl⟩
theorem gr_1 (h : IsEx x) : iF x [0, 1, 2] = (0, 0) ∧ iB x [0, 1, 2] = true := by
  obtain ⟨ai, ag, ao, ci, cg, co, rfl⟩ := h.eq
  exact ⟨rfl, by kernel_rfl⟩
theorem gr_2 (h : IsEx x) : fdF x = (0, 0) ∧ fdL x = [[0, 1, 2]] := by
  obtain ⟨ai, ag, ao, ci, cg, co, rfl⟩ := h.eq
  exact ⟨rfl, by kernel_rfl⟩
theorem gr_3 (h : IsEx x) (a : Option Addr) (c : Nat) : iF { x with init := [0, 1], ai := a, ci := c } [0, 1] = (0, 0) ∧ iB { x with init := [0, 1], ai := a, ci := c } [0, 1] = false := by
  obtain ⟨ai, ag, ao, ci, cg, co, rfl⟩ := h.eq
  exact ⟨rfl, by kernel_rfl⟩
theorem gr_4 (h : IsEx x) (a : Option Addr) (c : Nat) : iF { x with init := [0, 1], ai := a, ci := c } [1, 0] = (5, -8) ∧ iB { x with init := [0, 1], ai := a, ci := c } [1, 0] = false := by
  obtain ⟨ai, ag, ao, ci, cg, co, rfl⟩ := h.eq
  exact ⟨rfl, by kernel_rfl⟩
end
def rwsS (a : Option Addr) (xs : List (List Int)) : SP := ⟨fun W => Rws W W.heap.size a xs, fun _ _ hb h => h.to hb hb.size⟩
def tabS : SP := ⟨TabIn, fun _ _ hb h => h.to hb (Nat.le_refl _)⟩
def boxS (g : Nat) (x : Tsk) : SP := ⟨fun W => TBox W g x, fun _ _ hb h => h.to hb h.lt⟩
def tkS (x : Tsk) : SP := ⟨fun W => TskIn W W.heap.size x, fun _ _ hb h => h.to hb hb.size⟩
section
variable {x : Tsk} {w : World}
theorem ind1_ex (hx : IsEx x) (ht : TskIn w w.heap.size x) :
    Calls Tryd.prog 32 #[.agg #[.int .i64 x.n, .slice x.ai x.init.length x.ci, .slice x.ag x.goal.length x.cg, .slice x.ao x.ops.length x.co], .slice (some ⟨w.heap.size, 0, none⟩) 3 3] (w.alloc (.cells #[.int .i64 0, .int .i64 1, .int .i64 2] 3)) fun e w' => e = .returned (.tuple #[.bool true, .agg #[.int .i64 0, .int .i64 0]]) ∧ Below w.heap.size w w' := by
  have hb : Below w.heap.size w (w.alloc (.cells #[.int .i64 0, .int .i64 1, .int .i64 2] 3)) := by go_grown
  have h := Inductive_any x _ 3 [0, 1, 2] _ (ht.to hb hb.size) (lst_new3 w 0 1 2)
  rw [(gr_1 hx).1, (gr_1 hx).2] at h
  exact h.mono fun e w' ⟨he, hb2⟩ => ⟨he, hb.trans (hb2.mono hb.size)⟩
theorem ind2_ex (hx : IsEx x) {a : Option Addr} (ht : TskIn w w.heap.size { x with init := [0, 1], ai := a, ci := 2 }) :
    Calls Tryd.prog 32 #[.agg #[.int .i64 x.n, .slice a 2 2, .slice x.ag x.goal.length x.cg, .slice x.ao x.ops.length x.co], .slice (some ⟨w.heap.size, 0, none⟩) 2 2] (w.alloc (.cells #[.int .i64 0, .int .i64 1] 3)) fun e w' => e = .returned (.tuple #[.bool false, .agg #[.int .i64 0, .int .i64 0]]) ∧ Below w.heap.size w w' := by
  have hb : Below w.heap.size w (w.alloc (.cells #[.int .i64 0, .int .i64 1] 3)) := by go_grown
  have h := Inductive_any { x with init := [0, 1], ai := a, ci := 2 } _ 2 [0, 1] _ (ht.to hb hb.size) (lst_new2 w 0 1)
  rw [(gr_3 hx a 2).1, (gr_3 hx a 2).2] at h
  exact h.mono fun e w' ⟨he, hb2⟩ => ⟨he, hb.trans (hb2.mono hb.size)⟩
theorem ind3_ex (hx : IsEx x) {a : Option Addr} (ht : TskIn w w.heap.size { x with init := [0, 1], ai := a, ci := 2 }) :
    Calls Tryd.prog 32 #[.agg #[.int .i64 x.n, .slice a 2 2, .slice x.ag x.goal.length x.cg, .slice x.ao x.ops.length x.co], .slice (some ⟨w.heap.size, 0, none⟩) 2 2] (w.alloc (.cells #[.int .i64 1, .int .i64 0] 3)) fun e w' => e = .returned (.tuple #[.bool false, .agg #[.int .i64 5, .int .i64 (-8)]]) ∧ Below w.heap.size w w' := by
  have hb : Below w.heap.size w (w.alloc (.cells #[.int .i64 1, .int .i64 0] 3)) := by go_grown
  have h := Inductive_any { x with init := [0, 1], ai := a, ci := 2 } _ 2 [1, 0] _ (ht.to hb hb.size) (lst_new2 w 1 0)
  rw [(gr_4 hx a 2).1, (gr_4 hx a 2).2] at h
  exact h.mono fun e w' ⟨he, hb2⟩ => ⟨he, hb.trans (hb2.mono hb.size)⟩
end
theorem tsk2 {w1 : World} {x : Tsk} (ht : TskIn w1 w1.heap.size x) : TskIn ((w1.alloc (.cells #[.int .i64 x.n, .slice (some ⟨w1.heap.size + 1, 0, none⟩) 2 2, .slice x.ag x.goal.length x.cg, .slice x.ao x.ops.length x.co] 25)).alloc (.cells #[.int .i64 0, .int .i64 1] 3)) (((w1.alloc (.cells #[.int .i64 x.n, .slice (some ⟨w1.heap.size + 1, 0, none⟩) 2 2, .slice x.ag x.goal.length x.cg, .slice x.ao x.ops.length x.co] 25)).alloc (.cells #[.int .i64 0, .int .i64 1] 3))).heap.size { x with init := [0, 1], ai := some ⟨w1.heap.size + 1, 0, none⟩, ci := 2 } ∧ TBox ((w1.alloc (.cells #[.int .i64 x.n, .slice (some ⟨w1.heap.size + 1, 0, none⟩) 2 2, .slice x.ag x.goal.length x.cg, .slice x.ao x.ops.length x.co] 25)).alloc (.cells #[.int .i64 0, .int .i64 1] 3)) w1.heap.size { x with init := [0, 1], ai := some ⟨w1.heap.size + 1, 0, none⟩, ci := 2 } ∧ Below w1.heap.size w1 ((w1.alloc (.cells #[.int .i64 x.n, .slice (some ⟨w1.heap.size + 1, 0, none⟩) 2 2, .slice x.ag x.goal.length x.cg, .slice x.ao x.ops.length x.co] 25)).alloc (.cells #[.int .i64 0, .int .i64 1] 3)) := by
  have hb : Below w1.heap.size w1 ((w1.alloc (.cells #[.int .i64 x.n, .slice (some ⟨w1.heap.size + 1, 0, none⟩) 2 2, .slice x.ag x.goal.length x.cg, .slice x.ao x.ops.length x.co] 25)).alloc (.cells #[.int .i64 0, .int .i64 1] 3)) := by go_grown
  have h := ht.to hb hb.size
  refine ⟨⟨?_, h.goal, h.ops, h.le, h.max⟩, ⟨by simp; omega, by simp, by simp, by simp, by simp⟩, hb⟩
  have := lst_new2 (w1.alloc (.cells #[.int .i64 x.n, .slice (some ⟨w1.heap.size + 1, 0, none⟩) 2 2, .slice x.ag x.goal.length x.cg, .slice x.ao x.ops.length x.co] 25)) 0 1
  simpa using this
theorem ind2_at {w1 : World} {x : Tsk} (hx : IsEx x) (ht : TskIn w1 w1.heap.size x) :
    Calls Tryd.prog 32 #[.agg #[.int .i64 x.n, .slice (some ⟨w1.heap.size + 1, 0, none⟩) 2 2, .slice x.ag x.goal.length x.cg, .slice x.ao x.ops.length x.co], .slice (some ⟨w1.heap.size + 1 + 1, 0, none⟩) 2 2] (((w1.alloc (.cells #[.int .i64 x.n, .slice (some ⟨w1.heap.size + 1, 0, none⟩) 2 2, .slice x.ag x.goal.length x.cg, .slice x.ao x.ops.length x.co] 25)).alloc (.cells #[.int .i64 0, .int .i64 1] 3)).alloc (.cells #[.int .i64 0, .int .i64 1] 3)) fun e w' => e = .returned (.tuple #[.bool false, .agg #[.int .i64 0, .int .i64 0]]) ∧ Below (((w1.alloc (.cells #[.int .i64 x.n, .slice (some ⟨w1.heap.size + 1, 0, none⟩) 2 2, .slice x.ag x.goal.length x.cg, .slice x.ao x.ops.length x.co] 25)).alloc (.cells #[.int .i64 0, .int .i64 1] 3))).heap.size ((w1.alloc (.cells #[.int .i64 x.n, .slice (some ⟨w1.heap.size + 1, 0, none⟩) 2 2, .slice x.ag x.goal.length x.cg, .slice x.ao x.ops.length x.co] 25)).alloc (.cells #[.int .i64 0, .int .i64 1] 3)) w' := by
  have h := ind2_ex hx (tsk2 ht).1
  have e : (((w1.alloc (.cells #[.int .i64 x.n, .slice (some ⟨w1.heap.size + 1, 0, none⟩) 2 2, .slice x.ag x.goal.length x.cg, .slice x.ao x.ops.length x.co] 25)).alloc (.cells #[.int .i64 0, .int .i64 1] 3))).heap.size = w1.heap.size + 1 + 1 := by simp
  rw [e] at h ⊢
  exact h
theorem ind3_at {wC : World} {x : Tsk} {a : Option Addr} (hx : IsEx x) (ht : TskIn (wC.alloc (.cells #[.int .i64 0, .int .i64 0] 28)) ((wC.alloc (.cells #[.int .i64 0, .int .i64 0] 28))).heap.size { x with init := [0, 1], ai := a, ci := 2 }) :
    Calls Tryd.prog 32 #[.agg #[.int .i64 x.n, .slice a 2 2, .slice x.ag x.goal.length x.cg, .slice x.ao x.ops.length x.co], .slice (some ⟨wC.heap.size + 1, 0, none⟩) 2 2] ((wC.alloc (.cells #[.int .i64 0, .int .i64 0] 28)).alloc (.cells #[.int .i64 1, .int .i64 0] 3)) fun e w' => e = .returned (.tuple #[.bool false, .agg #[.int .i64 5, .int .i64 (-8)]]) ∧ Below ((wC.alloc (.cells #[.int .i64 0, .int .i64 0] 28))).heap.size (wC.alloc (.cells #[.int .i64 0, .int .i64 0] 28)) w' := by
  have h := ind3_ex hx ht
  have e : ((wC.alloc (.cells #[.int .i64 0, .int .i64 0] 28))).heap.size = wC.heap.size + 1 := by simp
  rw [e] at h ⊢
  exact h
theorem last6v {P1 P2 P3 P4 P5 Q : Prop} (h : P1 ∧ P2 ∧ P3 ∧ P4 ∧ P5 ∧ Q) : Q := h.2.2.2.2.2
theorem bel_go {U V V' : World} (h : Below U.heap.size U V) (h2 : Below V.heap.size V V') : Below U.heap.size U V' := h.trans (h2.mono h.size)
theorem lists_ex {V : World} {a : Option Addr} {c : Nat} (hR : Rws V V.heap.size a [[0, 1, 2]]) :
    Calls Tryd.prog 11 #[.slice a 1 c, .slice (some ⟨V.heap.size + 1, 0, none⟩) 1 1] ((V.alloc (.cells #[.int .i64 0, .int .i64 1, .int .i64 2] 3)).alloc (.cells #[.slice (some ⟨V.heap.size, 0, none⟩) 3 3] 22)).drew fun e w' => e = .returned (.bool true) ∧ Below V.heap.size V w' := by
  have hb : Below V.heap.size V ((V.alloc (.cells #[.int .i64 0, .int .i64 1, .int .i64 2] 3)).alloc (.cells #[.slice (some ⟨V.heap.size, 0, none⟩) 3 3] 22)).drew := Below.drew (by go_grown)
  have h2 : Rws ((V.alloc (.cells #[.int .i64 0, .int .i64 1, .int .i64 2] 3)).alloc (.cells #[.slice (some ⟨V.heap.size, 0, none⟩) 3 3] 22)).drew ((V.alloc (.cells #[.int .i64 0, .int .i64 1, .int .i64 2] 3)).alloc (.cells #[.slice (some ⟨V.heap.size, 0, none⟩) 3 3] 22)).drew.heap.size (some ⟨V.heap.size + 1, 0, none⟩) [[0, 1, 2]] := by
    intro _
    refine ⟨V.heap.size + 1, 0, rfl, by simp, fun k hk => ?_⟩
    have hk : k = 0 := by simpa using hk
    subst hk
    refine ⟨some ⟨V.heap.size, 0, none⟩, 3, ?_, ?_⟩
    · simp [rw_]
    · exact (lst_new3 V 0 1 2).to (((Below.refl _ _).alloc (Nat.le_refl _) _).drew) (by simp)
  have h := lists_any a (some ⟨V.heap.size + 1, 0, none⟩) c 1 [[0, 1, 2]] [[0, 1, 2]] _ (hR.to hb hb.size) h2 (by simp [maxLen]) (by simp [maxLen])
  exact h.mono fun e w' ⟨he, hb2⟩ => ⟨he.trans (ret_bool rfl), hb.trans (hb2.mono hb.size)⟩
end Go.Proofs.YtiaobanloakplaaDoor
end
