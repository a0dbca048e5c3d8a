/- SameTask of the reference; the closed example of the laws on multi-valued tasks: its task. -/
import Derived.Test.YthlafcmabeiagaaDoorMzx
import Derived.Test.YthlafcmabeiagaaDoorMzh
import Derived.Test.YthlafcmabeiagaaDoorMze
namespace Go.Proofs.YthlafcmabeiagaaDoor
open Go.RowKit
set_option linter.unusedSimpArgs false
set_option linter.unusedVariables false
set_option maxRecDepth 100000

theorem strips_any (x : MT) (w : World) (hX : MTIn w w.heap.size x) : Calls Tryd.prog 4 #[.agg #[.slice x.az x.sizes.length x.cz, .slice x.ai x.init.length x.ci, .slice x.ag x.goal.length x.cg, .slice x.ao x.ops.length x.co]] w (StrP w x) := by
  by_cases h : (msF x).1 = 0
  · exact strips_b x w hX h
  · exact strips_a x w hX h
/-- The boxes of the two tasks. -/
structure ST (w W : World) (x : Tsk) (bi bg bo : Option Addr) (di dg do_ : Nat) : Prop where
  below : Below w.heap.size w W
  q1 : Quad W w.heap.size (.int .i64 x.n) (.slice x.ai x.init.length x.ci) (.slice x.ag x.goal.length x.cg) (.slice x.ao x.ops.length x.co)
  q2 : Quad W (w.heap.size + 1) (.int .i64 x.n) (.slice bi x.init.length di) (.slice bg x.goal.length dg) (.slice bo x.ops.length do_)
theorem ST.to {w W W' : World} {x : Tsk} {bi bg bo : Option Addr} {di dg do_ : Nat} (h : ST w W x bi bg bo di dg do_) (hb : Below W.heap.size W W') : ST w W' x bi bg bo di dg do_ := ⟨h.below.trans (hb.mono h.below.size), h.q1.to hb h.q1.lt, h.q2.to hb h.q2.lt⟩
theorem st_new (w : World) (x : Tsk) (bi bg bo : Option Addr) (di dg do_ : Nat) : ST w ((w.alloc (.cells #[.int .i64 x.n, .slice x.ai x.init.length x.ci, .slice x.ag x.goal.length x.cg, .slice x.ao x.ops.length x.co] 29)).alloc (.cells #[.int .i64 x.n, .slice bi x.init.length di, .slice bg x.goal.length dg, .slice bo x.ops.length do_] 29)) x bi bg bo di dg do_ := by
  have q := quad_new w (.int .i64 x.n) (.slice x.ai x.init.length x.ci) (.slice x.ag x.goal.length x.cg) (.slice x.ao x.ops.length x.co) 29
  have z := quad_new (w.alloc (.cells #[.int .i64 x.n, .slice x.ai x.init.length x.ci, .slice x.ag x.goal.length x.cg, .slice x.ao x.ops.length x.co] 29)) (.int .i64 x.n) (.slice bi x.init.length di) (.slice bg x.goal.length dg) (.slice bo x.ops.length do_) 29
  exact ⟨by go_grown, q.to (al_b _ _) (by simp), by simpa using z⟩
set_option maxHeartbeats 4000000 in
theorem sameTask_any (x : Tsk) (bi bg bo : Option Addr) (di dg do_ : Nat) (w : World) (hX : TskIn w w.heap.size x) (hY : TskIn w w.heap.size ⟨x.n, x.init, x.goal, x.ops, bi, bg, bo, di, dg, do_⟩) :
    Calls Tryd.prog 18 #[.agg #[.int .i64 x.n, .slice x.ai x.init.length x.ci, .slice x.ag x.goal.length x.cg, .slice x.ao x.ops.length x.co], .agg #[.int .i64 x.n, .slice bi x.init.length di, .slice bg x.goal.length dg, .slice bo x.ops.length do_]] w fun e w' => e = .returned (.bool true) ∧ Below w.heap.size w w' := by
  have hno := hX.len
  unfold maxLen at hno
  have hS := Lib.hid (st_new w x bi bg bo di dg do_)
  have HI1 := Lib.hid (fun (W : World) (h : Below w.heap.size w W) => ints_same x.ai bi x.ci di x.init x.init rfl W (hX.init.to h h.size) (hY.init.to h h.size))
  have HI2 := Lib.hid (fun (W : World) (h : Below w.heap.size w W) => ints_same x.ag bg x.cg dg x.goal x.goal rfl W (hX.goal.to h h.size) (hY.goal.to h h.size))
  have HX := Lib.hid (fun (W : World) (h : Below w.heap.size w W) => hX.ops.to h h.size)
  have HY := Lib.hid (fun (W : World) (h : Below w.heap.size w W) => hY.ops.to h h.size)
  clear hX hY
  go_enter Tryd.func18, Tryd.ntmps18
  obtain ⟨_, ⟨_, s0, s1, s2, s3, _⟩, ⟨_, t0, t1, t2, t3, _⟩⟩ := hS.out
  go_wp2_with (first | (go_at_call 9; (with_reducible refine (HI1.out _ hS.out.below).mono ?_); rintro e w5 ⟨rfl, hb⟩; have hS := Lib.hid (hS.out.to hb); clear hb; obtain ⟨_, ⟨_, s0, s1, s2, s3, _⟩, ⟨_, t0, t1, t2, t3, _⟩⟩ := hS.out) | (go_at_call 9; (with_reducible refine (HI2.out _ hS.out.below).mono ?_); rintro e w6 ⟨rfl, hb⟩; have hS := Lib.hid (hS.out.to hb); clear hb; obtain ⟨_, ⟨_, s0, s1, s2, s3, _⟩, ⟨_, t0, t1, t2, t3, _⟩⟩ := hS.out))
  go_loopw [5] (fun i wr => ∃ k : Nat, k ≤ x.ops.length ∧ i = .int .i64 k ∧ ST w wr x bi bg bo di dg do_) (fun i _ => x.ops.length - (intOf i).toNat)
  case atStart => exact ⟨0, by omega, rfl, hS.out⟩
  case round =>
    clear s0 s1 s2 s3 t0 t1 t2 t3
    clear hS
    obtain ⟨k, hk, rfl, hs⟩ := hrel
    have hS := Lib.hid hs
    clear hs
    obtain ⟨_, ⟨_, s0, s1, s2, s3, _⟩, ⟨_, t0, t1, t2, t3, _⟩⟩ := hS.out
    by_cases hlt : k < x.ops.length
    case neg =>
      have hge : ¬ ((k : Int) < x.ops.length) := by omega
      go_wp2
      go_ret
      exact ⟨rfl, hS.out.below⟩
    obtain ⟨b, p, a1, a2, a3, c1, c2, c3, hao, _, ⟨q0, q1, q2, q3⟩, hv⟩ := (HX.out _ hS.out.below).at_ hlt
    obtain ⟨b', p', e1, e2, e3, d1, d2, d3, hbo, _, ⟨r0, r1, r2, r3⟩, hv'⟩ := (HY.out _ hS.out.below).at_ hlt
    rw [hao] at s3
    rw [hbo] at t3
    have HAO := Lib.hid hao
    have HBO := Lib.hid hbo
    clear hao hbo
    have ho : opr (Tsk.ops ⟨x.n, x.init, x.goal, x.ops, bi, bg, bo, di, dg, do_⟩) k = opr x.ops k := rfl
    rw [ho] at r0 r1 r2 r3 hv'
    clear ho
    generalize opr x.ops k = o at *
    have ha1 := al_b wr (.cells #[.slice a1 o.pre.length c1, .slice a2 o.add.length c2, .slice a3 o.del.length c3, .int .i64 o.cost] 52)
    have ha2 := al_b (wr.alloc (.cells #[.slice a1 o.pre.length c1, .slice a2 o.add.length c2, .slice a3 o.del.length c3, .int .i64 o.cost] 52)) (.cells #[.slice e1 o.pre.length d1, .slice e2 o.add.length d2, .slice e3 o.del.length d3, .int .i64 o.cost] 52)
    have hQ := Lib.hid (ha1.trans (ha2.mono ha1.size))
    have HJ1 := Lib.hid (fun (W : World) (h : Below wr.heap.size wr W) => ints_same a1 e1 c1 d1 o.pre o.pre rfl W (hv.pre.to h h.size) (hv'.pre.to h h.size))
    have HJ2 := Lib.hid (fun (W : World) (h : Below wr.heap.size wr W) => ints_same a2 e2 c2 d2 o.add o.add rfl W (hv.add.to h h.size) (hv'.add.to h h.size))
    have HJ3 := Lib.hid (fun (W : World) (h : Below wr.heap.size wr W) => ints_same a3 e3 c3 d3 o.del o.del rfl W (hv.del.to h h.size) (hv'.del.to h h.size))
    have hS := Lib.hid (hS.out.to hQ.out)
    have hP := Lib.hid ((quad_new wr (.slice a1 o.pre.length c1) (.slice a2 o.add.length c2) (.slice a3 o.del.length c3) (.int .i64 o.cost) 52).to ha2 (by simp))
    have hR := Lib.hid (quad_new (wr.alloc (.cells #[.slice a1 o.pre.length c1, .slice a2 o.add.length c2, .slice a3 o.del.length c3, .int .i64 o.cost] 52)) (.slice e1 o.pre.length d1) (.slice e2 o.add.length d2) (.slice e3 o.del.length d3) (.int .i64 o.cost) 52)
    rw [World.size_alloc] at hR
    clear ha1 ha2 hv hv'
    go_wp2_with (first | (go_at_call 9; (with_reducible refine (HJ1.out _ hQ.out).mono ?_); rintro e w5 ⟨rfl, hb⟩; have hS := Lib.hid (hS.out.to hb); have hP := Lib.hid (hP.out.to hb hP.out.lt); have hR := Lib.hid (hR.out.to hb hR.out.lt); have hQ := Lib.hid (hQ.out.trans (hb.mono hQ.out.size)); clear hb; obtain ⟨_, u0, u1, u2, u3, _⟩ := hP.out; obtain ⟨_, v0, v1, v2, v3, _⟩ := hR.out) | (go_at_call 9; (with_reducible refine (HJ2.out _ hQ.out).mono ?_); rintro e w6 ⟨rfl, hb⟩; have hS := Lib.hid (hS.out.to hb); have hP := Lib.hid (hP.out.to hb hP.out.lt); have hR := Lib.hid (hR.out.to hb hR.out.lt); have hQ := Lib.hid (hQ.out.trans (hb.mono hQ.out.size)); clear hb; obtain ⟨_, u0, u1, u2, u3, _⟩ := hP.out; obtain ⟨_, v0, v1, v2, v3, _⟩ := hR.out) | (go_at_call 9; (with_reducible refine (HJ3.out _ hQ.out).mono ?_); rintro e w7 ⟨rfl, hb⟩; have hS := Lib.hid (hS.out.to hb); have hP := Lib.hid (hP.out.to hb hP.out.lt); have hR := Lib.hid (hR.out.to hb hR.out.lt); have hQ := Lib.hid (hQ.out.trans (hb.mono hQ.out.size)); clear hb; obtain ⟨_, u0, u1, u2, u3, _⟩ := hP.out; obtain ⟨_, v0, v1, v2, v3, _⟩ := hR.out))
    go_roundw
    case rel => exact ⟨k + 1, by omega, by go_num, hS.out⟩
    case measure => simp [intOf]; omega

/-! ### The task of the closed example -/
structure IsSw (x : MT) : Prop where
  sizes : x.sizes = [2]
  init : x.init = [0]
  goal : x.goal = [⟨0, 1⟩]
  ops : x.ops = [⟨[⟨0, 0⟩], [⟨0, 1⟩], 4⟩]
def swx (w : World) : MT := ⟨[2], [0], [⟨0, 1⟩], [⟨[⟨0, 0⟩], [⟨0, 1⟩], 4⟩], some ⟨w.heap.size + 1, 0, none⟩, some ⟨w.heap.size + 1 + 1, 0, none⟩, some ⟨w.heap.size + 1 + 1 + 1, 0, none⟩, some ⟨w.heap.size + 1 + 1 + 1 + 1 + 1 + 1, 0, none⟩, 1, 1, 1, 1⟩
theorem Tri.alloc {w : World} {g : Nat} {u v y : Value} (h : Tri w g u v y) (o : Obj) : Tri (w.alloc o) g u v y := h.to ((Below.refl _ _).alloc (Nat.le_refl _) _)
theorem Quad.alloc {w : World} {g : Nat} {u v y z : Value} (h : Quad w g u v y z) (o : Obj) : Quad (w.alloc o) g u v y z := h.to ((Below.refl _ _).alloc (Nat.le_refl _) _) h.lt
theorem asgL_one {W : World} {g : Nat} {u v : Int} (h : Two W g (.int .i64 u) (.int .i64 v)) : AsgL W W.heap.size (some ⟨g, 0, none⟩) 1 [⟨u, v⟩] := by
  refine ⟨fun _ => ⟨g, 0, rfl, h.lt, fun k hk => ?_⟩, by simp, by simp [maxLen]⟩
  obtain rfl : k = 0 := by simp at hk; omega
  exact ⟨h.fst, h.snd⟩
theorem sw_in (w : World) : MTIn (((((((w.alloc (.cells #[.slice (some ⟨w.heap.size + 1, 0, none⟩) 1 1, .slice (some ⟨w.heap.size + 1 + 1, 0, none⟩) 1 1, .slice (some ⟨w.heap.size + 1 + 1 + 1, 0, none⟩) 1 1, .slice (some ⟨w.heap.size + 1 + 1 + 1 + 1 + 1 + 1, 0, none⟩) 1 1] 26)).alloc (.cells #[.int .i64 2] 3)).alloc (.cells #[.int .i64 0] 3)).alloc (.cells #[.int .i64 0, .int .i64 1] 47)).alloc (.cells #[.int .i64 0, .int .i64 0] 47)).alloc (.cells #[.int .i64 0, .int .i64 1] 47)).alloc (.cells #[.slice (some ⟨w.heap.size + 1 + 1 + 1 + 1, 0, none⟩) 1 1, .slice (some ⟨w.heap.size + 1 + 1 + 1 + 1 + 1, 0, none⟩) 1 1, .int .i64 4] 50)) ((((((((w.alloc (.cells #[.slice (some ⟨w.heap.size + 1, 0, none⟩) 1 1, .slice (some ⟨w.heap.size + 1 + 1, 0, none⟩) 1 1, .slice (some ⟨w.heap.size + 1 + 1 + 1, 0, none⟩) 1 1, .slice (some ⟨w.heap.size + 1 + 1 + 1 + 1 + 1 + 1, 0, none⟩) 1 1] 26)).alloc (.cells #[.int .i64 2] 3)).alloc (.cells #[.int .i64 0] 3)).alloc (.cells #[.int .i64 0, .int .i64 1] 47)).alloc (.cells #[.int .i64 0, .int .i64 0] 47)).alloc (.cells #[.int .i64 0, .int .i64 1] 47)).alloc (.cells #[.slice (some ⟨w.heap.size + 1 + 1 + 1 + 1, 0, none⟩) 1 1, .slice (some ⟨w.heap.size + 1 + 1 + 1 + 1 + 1, 0, none⟩) 1 1, .int .i64 4] 50))).heap.size (swx w) := by
  have a2 : One (((((((w.alloc (.cells #[.slice (some ⟨w.heap.size + 1, 0, none⟩) 1 1, .slice (some ⟨w.heap.size + 1 + 1, 0, none⟩) 1 1, .slice (some ⟨w.heap.size + 1 + 1 + 1, 0, none⟩) 1 1, .slice (some ⟨w.heap.size + 1 + 1 + 1 + 1 + 1 + 1, 0, none⟩) 1 1] 26)).alloc (.cells #[.int .i64 2] 3)).alloc (.cells #[.int .i64 0] 3)).alloc (.cells #[.int .i64 0, .int .i64 1] 47)).alloc (.cells #[.int .i64 0, .int .i64 0] 47)).alloc (.cells #[.int .i64 0, .int .i64 1] 47)).alloc (.cells #[.slice (some ⟨w.heap.size + 1 + 1 + 1 + 1, 0, none⟩) 1 1, .slice (some ⟨w.heap.size + 1 + 1 + 1 + 1 + 1, 0, none⟩) 1 1, .int .i64 4] 50)) (w.heap.size + 1) (.int .i64 2) := by
    have := one_new (w.alloc (.cells #[.slice (some ⟨w.heap.size + 1, 0, none⟩) 1 1, .slice (some ⟨w.heap.size + 1 + 1, 0, none⟩) 1 1, .slice (some ⟨w.heap.size + 1 + 1 + 1, 0, none⟩) 1 1, .slice (some ⟨w.heap.size + 1 + 1 + 1 + 1 + 1 + 1, 0, none⟩) 1 1] 26)) (.int .i64 2) 3
    rw [World.size_alloc] at this
    exact ((((this.alloc _).alloc _).alloc _).alloc _).alloc _
  have a0 : One (((((((w.alloc (.cells #[.slice (some ⟨w.heap.size + 1, 0, none⟩) 1 1, .slice (some ⟨w.heap.size + 1 + 1, 0, none⟩) 1 1, .slice (some ⟨w.heap.size + 1 + 1 + 1, 0, none⟩) 1 1, .slice (some ⟨w.heap.size + 1 + 1 + 1 + 1 + 1 + 1, 0, none⟩) 1 1] 26)).alloc (.cells #[.int .i64 2] 3)).alloc (.cells #[.int .i64 0] 3)).alloc (.cells #[.int .i64 0, .int .i64 1] 47)).alloc (.cells #[.int .i64 0, .int .i64 0] 47)).alloc (.cells #[.int .i64 0, .int .i64 1] 47)).alloc (.cells #[.slice (some ⟨w.heap.size + 1 + 1 + 1 + 1, 0, none⟩) 1 1, .slice (some ⟨w.heap.size + 1 + 1 + 1 + 1 + 1, 0, none⟩) 1 1, .int .i64 4] 50)) (w.heap.size + 1 + 1) (.int .i64 0) := by
    have := one_new ((w.alloc (.cells #[.slice (some ⟨w.heap.size + 1, 0, none⟩) 1 1, .slice (some ⟨w.heap.size + 1 + 1, 0, none⟩) 1 1, .slice (some ⟨w.heap.size + 1 + 1 + 1, 0, none⟩) 1 1, .slice (some ⟨w.heap.size + 1 + 1 + 1 + 1 + 1 + 1, 0, none⟩) 1 1] 26)).alloc (.cells #[.int .i64 2] 3)) (.int .i64 0) 3
    rw [World.size_alloc, World.size_alloc] at this
    exact (((this.alloc _).alloc _).alloc _).alloc _
  have ag : Two (((((((w.alloc (.cells #[.slice (some ⟨w.heap.size + 1, 0, none⟩) 1 1, .slice (some ⟨w.heap.size + 1 + 1, 0, none⟩) 1 1, .slice (some ⟨w.heap.size + 1 + 1 + 1, 0, none⟩) 1 1, .slice (some ⟨w.heap.size + 1 + 1 + 1 + 1 + 1 + 1, 0, none⟩) 1 1] 26)).alloc (.cells #[.int .i64 2] 3)).alloc (.cells #[.int .i64 0] 3)).alloc (.cells #[.int .i64 0, .int .i64 1] 47)).alloc (.cells #[.int .i64 0, .int .i64 0] 47)).alloc (.cells #[.int .i64 0, .int .i64 1] 47)).alloc (.cells #[.slice (some ⟨w.heap.size + 1 + 1 + 1 + 1, 0, none⟩) 1 1, .slice (some ⟨w.heap.size + 1 + 1 + 1 + 1 + 1, 0, none⟩) 1 1, .int .i64 4] 50)) (w.heap.size + 1 + 1 + 1) (.int .i64 0) (.int .i64 1) := by
    have := two_new (((w.alloc (.cells #[.slice (some ⟨w.heap.size + 1, 0, none⟩) 1 1, .slice (some ⟨w.heap.size + 1 + 1, 0, none⟩) 1 1, .slice (some ⟨w.heap.size + 1 + 1 + 1, 0, none⟩) 1 1, .slice (some ⟨w.heap.size + 1 + 1 + 1 + 1 + 1 + 1, 0, none⟩) 1 1] 26)).alloc (.cells #[.int .i64 2] 3)).alloc (.cells #[.int .i64 0] 3)) (.int .i64 0) (.int .i64 1) 47
    rw [World.size_alloc, World.size_alloc, World.size_alloc] at this
    exact ((this.alloc _).alloc _).alloc _
  have ap : Two (((((((w.alloc (.cells #[.slice (some ⟨w.heap.size + 1, 0, none⟩) 1 1, .slice (some ⟨w.heap.size + 1 + 1, 0, none⟩) 1 1, .slice (some ⟨w.heap.size + 1 + 1 + 1, 0, none⟩) 1 1, .slice (some ⟨w.heap.size + 1 + 1 + 1 + 1 + 1 + 1, 0, none⟩) 1 1] 26)).alloc (.cells #[.int .i64 2] 3)).alloc (.cells #[.int .i64 0] 3)).alloc (.cells #[.int .i64 0, .int .i64 1] 47)).alloc (.cells #[.int .i64 0, .int .i64 0] 47)).alloc (.cells #[.int .i64 0, .int .i64 1] 47)).alloc (.cells #[.slice (some ⟨w.heap.size + 1 + 1 + 1 + 1, 0, none⟩) 1 1, .slice (some ⟨w.heap.size + 1 + 1 + 1 + 1 + 1, 0, none⟩) 1 1, .int .i64 4] 50)) (w.heap.size + 1 + 1 + 1 + 1) (.int .i64 0) (.int .i64 0) := by
    have := two_new ((((w.alloc (.cells #[.slice (some ⟨w.heap.size + 1, 0, none⟩) 1 1, .slice (some ⟨w.heap.size + 1 + 1, 0, none⟩) 1 1, .slice (some ⟨w.heap.size + 1 + 1 + 1, 0, none⟩) 1 1, .slice (some ⟨w.heap.size + 1 + 1 + 1 + 1 + 1 + 1, 0, none⟩) 1 1] 26)).alloc (.cells #[.int .i64 2] 3)).alloc (.cells #[.int .i64 0] 3)).alloc (.cells #[.int .i64 0, .int .i64 1] 47)) (.int .i64 0) (.int .i64 0) 47
    rw [World.size_alloc, World.size_alloc, World.size_alloc, World.size_alloc] at this
    exact (this.alloc _).alloc _
  have aq : Two (((((((w.alloc (.cells #[.slice (some ⟨w.heap.size + 1, 0, none⟩) 1 1, .slice (some ⟨w.heap.size + 1 + 1, 0, none⟩) 1 1, .slice (some ⟨w.heap.size + 1 + 1 + 1, 0, none⟩) 1 1, .slice (some ⟨w.heap.size + 1 + 1 + 1 + 1 + 1 + 1, 0, none⟩) 1 1] 26)).alloc (.cells #[.int .i64 2] 3)).alloc (.cells #[.int .i64 0] 3)).alloc (.cells #[.int .i64 0, .int .i64 1] 47)).alloc (.cells #[.int .i64 0, .int .i64 0] 47)).alloc (.cells #[.int .i64 0, .int .i64 1] 47)).alloc (.cells #[.slice (some ⟨w.heap.size + 1 + 1 + 1 + 1, 0, none⟩) 1 1, .slice (some ⟨w.heap.size + 1 + 1 + 1 + 1 + 1, 0, none⟩) 1 1, .int .i64 4] 50)) (w.heap.size + 1 + 1 + 1 + 1 + 1) (.int .i64 0) (.int .i64 1) := by
    have := two_new (((((w.alloc (.cells #[.slice (some ⟨w.heap.size + 1, 0, none⟩) 1 1, .slice (some ⟨w.heap.size + 1 + 1, 0, none⟩) 1 1, .slice (some ⟨w.heap.size + 1 + 1 + 1, 0, none⟩) 1 1, .slice (some ⟨w.heap.size + 1 + 1 + 1 + 1 + 1 + 1, 0, none⟩) 1 1] 26)).alloc (.cells #[.int .i64 2] 3)).alloc (.cells #[.int .i64 0] 3)).alloc (.cells #[.int .i64 0, .int .i64 1] 47)).alloc (.cells #[.int .i64 0, .int .i64 0] 47)) (.int .i64 0) (.int .i64 1) 47
    rw [World.size_alloc, World.size_alloc, World.size_alloc, World.size_alloc, World.size_alloc] at this
    exact this.alloc _
  have aE : Tri (((((((w.alloc (.cells #[.slice (some ⟨w.heap.size + 1, 0, none⟩) 1 1, .slice (some ⟨w.heap.size + 1 + 1, 0, none⟩) 1 1, .slice (some ⟨w.heap.size + 1 + 1 + 1, 0, none⟩) 1 1, .slice (some ⟨w.heap.size + 1 + 1 + 1 + 1 + 1 + 1, 0, none⟩) 1 1] 26)).alloc (.cells #[.int .i64 2] 3)).alloc (.cells #[.int .i64 0] 3)).alloc (.cells #[.int .i64 0, .int .i64 1] 47)).alloc (.cells #[.int .i64 0, .int .i64 0] 47)).alloc (.cells #[.int .i64 0, .int .i64 1] 47)).alloc (.cells #[.slice (some ⟨w.heap.size + 1 + 1 + 1 + 1, 0, none⟩) 1 1, .slice (some ⟨w.heap.size + 1 + 1 + 1 + 1 + 1, 0, none⟩) 1 1, .int .i64 4] 50)) (w.heap.size + 1 + 1 + 1 + 1 + 1 + 1) (.slice (some ⟨w.heap.size + 1 + 1 + 1 + 1, 0, none⟩) 1 1) (.slice (some ⟨w.heap.size + 1 + 1 + 1 + 1 + 1, 0, none⟩) 1 1) (.int .i64 4) := by
    have := tri_new ((((((w.alloc (.cells #[.slice (some ⟨w.heap.size + 1, 0, none⟩) 1 1, .slice (some ⟨w.heap.size + 1 + 1, 0, none⟩) 1 1, .slice (some ⟨w.heap.size + 1 + 1 + 1, 0, none⟩) 1 1, .slice (some ⟨w.heap.size + 1 + 1 + 1 + 1 + 1 + 1, 0, none⟩) 1 1] 26)).alloc (.cells #[.int .i64 2] 3)).alloc (.cells #[.int .i64 0] 3)).alloc (.cells #[.int .i64 0, .int .i64 1] 47)).alloc (.cells #[.int .i64 0, .int .i64 0] 47)).alloc (.cells #[.int .i64 0, .int .i64 1] 47)) (.slice (some ⟨w.heap.size + 1 + 1 + 1 + 1, 0, none⟩) 1 1) (.slice (some ⟨w.heap.size + 1 + 1 + 1 + 1 + 1, 0, none⟩) 1 1) (.int .i64 4) 50
    rw [World.size_alloc, World.size_alloc, World.size_alloc, World.size_alloc, World.size_alloc, World.size_alloc] at this
    exact this
  generalize (((((((w.alloc (.cells #[.slice (some ⟨w.heap.size + 1, 0, none⟩) 1 1, .slice (some ⟨w.heap.size + 1 + 1, 0, none⟩) 1 1, .slice (some ⟨w.heap.size + 1 + 1 + 1, 0, none⟩) 1 1, .slice (some ⟨w.heap.size + 1 + 1 + 1 + 1 + 1 + 1, 0, none⟩) 1 1] 26)).alloc (.cells #[.int .i64 2] 3)).alloc (.cells #[.int .i64 0] 3)).alloc (.cells #[.int .i64 0, .int .i64 1] 47)).alloc (.cells #[.int .i64 0, .int .i64 0] 47)).alloc (.cells #[.int .i64 0, .int .i64 1] 47)).alloc (.cells #[.slice (some ⟨w.heap.size + 1 + 1 + 1 + 1, 0, none⟩) 1 1, .slice (some ⟨w.heap.size + 1 + 1 + 1 + 1 + 1, 0, none⟩) 1 1, .int .i64 4] 50)) = W at *
  have l : ∀ {g : Nat} {v : Int}, One W g (.int .i64 v) → Lst W W.heap.size (some ⟨g, 0, none⟩) 1 [v] := fun h => lst_cell h.lt h.fst (by omega) (by simp [maxLen])
  refine ⟨l a2, l a0, asgL_one ag, ⟨fun _ => ⟨_, 0, rfl, aE.lt, fun k hk => ?_⟩, by simp [swx], by simp [maxLen, swx]⟩, fun h => by cases h⟩
  obtain rfl : k = 0 := by simp [swx] at hk; omega
  exact ⟨_, _, 1, 1, ⟨aE.c0, aE.c1, aE.c2⟩, asgL_one ap, asgL_one aq⟩
theorem post_quad {fn : Func} {R : Ending → World → Prop} {tmps : Array Value} {W : World} {s : Tmp} {g : Nat} {x y z u : Value} (hres : fn.results = #[.cell s 26]) (ht : tmps.getD s undef = .pointer (some ⟨g, 0, none⟩)) (hT : Quad W g x y z u) (hR : R (.returned (.agg #[x, y, z, u])) W) :
    bodyPost Tryd.prog fn R .ret { tmps := tmps, defers := [] } W := by
  refine bodyPost_ret (v := .agg #[x, y, z, u]) ?_ rfl hR
  simp only [results, hres]
  rw [Array.getD_eq_getD_getElem?] at ht
  simp [go_sem, ht, hT.c0, hT.c1, hT.c2, hT.c3]
def SwPost (w : World) (e : Ending) (w' : World) : Prop := ∃ x : MT, e = .returned (.agg #[.slice x.az x.sizes.length x.cz, .slice x.ai x.init.length x.ci, .slice x.ag x.goal.length x.cg, .slice x.ao x.ops.length x.co]) ∧ IsSw x ∧ MTIn w' w'.heap.size x ∧ Below w.heap.size w w'
set_option maxHeartbeats 2000000 in
theorem switches_any (w : World) : Calls Tryd.prog 15 #[] w (SwPost w) := by
  have HC := Lib.hid (sw_in w)
  have HT := Lib.hid (show Quad (((((((w.alloc (.cells #[.slice (some ⟨w.heap.size + 1, 0, none⟩) 1 1, .slice (some ⟨w.heap.size + 1 + 1, 0, none⟩) 1 1, .slice (some ⟨w.heap.size + 1 + 1 + 1, 0, none⟩) 1 1, .slice (some ⟨w.heap.size + 1 + 1 + 1 + 1 + 1 + 1, 0, none⟩) 1 1] 26)).alloc (.cells #[.int .i64 2] 3)).alloc (.cells #[.int .i64 0] 3)).alloc (.cells #[.int .i64 0, .int .i64 1] 47)).alloc (.cells #[.int .i64 0, .int .i64 0] 47)).alloc (.cells #[.int .i64 0, .int .i64 1] 47)).alloc (.cells #[.slice (some ⟨w.heap.size + 1 + 1 + 1 + 1, 0, none⟩) 1 1, .slice (some ⟨w.heap.size + 1 + 1 + 1 + 1 + 1, 0, none⟩) 1 1, .int .i64 4] 50)) w.heap.size (.slice (some ⟨w.heap.size + 1, 0, none⟩) 1 1) (.slice (some ⟨w.heap.size + 1 + 1, 0, none⟩) 1 1) (.slice (some ⟨w.heap.size + 1 + 1 + 1, 0, none⟩) 1 1) (.slice (some ⟨w.heap.size + 1 + 1 + 1 + 1 + 1 + 1, 0, none⟩) 1 1) from (((((quad_new w _ _ _ _ _).alloc _).alloc _).alloc _).alloc _).alloc _ |>.alloc _)
  have HB := Lib.hid (show Below w.heap.size w (((((((w.alloc (.cells #[.slice (some ⟨w.heap.size + 1, 0, none⟩) 1 1, .slice (some ⟨w.heap.size + 1 + 1, 0, none⟩) 1 1, .slice (some ⟨w.heap.size + 1 + 1 + 1, 0, none⟩) 1 1, .slice (some ⟨w.heap.size + 1 + 1 + 1 + 1 + 1 + 1, 0, none⟩) 1 1] 26)).alloc (.cells #[.int .i64 2] 3)).alloc (.cells #[.int .i64 0] 3)).alloc (.cells #[.int .i64 0, .int .i64 1] 47)).alloc (.cells #[.int .i64 0, .int .i64 0] 47)).alloc (.cells #[.int .i64 0, .int .i64 1] 47)).alloc (.cells #[.slice (some ⟨w.heap.size + 1 + 1 + 1 + 1, 0, none⟩) 1 1, .slice (some ⟨w.heap.size + 1 + 1 + 1 + 1 + 1, 0, none⟩) 1 1, .int .i64 4] 50)) by go_grown)
  go_enter Tryd.func15, Tryd.ntmps15
  go_wp2
  refine post_quad (g := w.heap.size) Tryd.results15 rfl HT.out ?_
  exact ⟨swx w, rfl, ⟨rfl, rfl, rfl, rfl⟩, HC.out, HB.out⟩
end Go.Proofs.YthlafcmabeiagaaDoor
