/- SameAssigns and SameMulti of the reference, where both are the same. -/
import Derived.Test.YtiaobanloakplaaDoorErc
namespace Go.Proofs.YtiaobanloakplaaDoor
open Go.RowKit
set_option linter.unusedSimpArgs false
set_option linter.unusedVariables false
set_option maxRecDepth 100000

set_option maxHeartbeats 2000000 in
theorem sameAsg_any (A B : Option Addr) (c d : Nat) (l : List Asg) (w : World) (hA : AsgL w w.heap.size A c l) (hB : AsgL w w.heap.size B d l) :
    Calls Tryd.prog 52 #[.slice A l.length c, .slice B l.length d] w fun e w' => e = .returned (.bool true) ∧ Below w.heap.size w w' := by
  have hm := hA.len
  unfold maxLen at hm
  have HA := Lib.hid (fun (W : World) (h : Below w.heap.size w W) => hA.to h h.size)
  have HB := Lib.hid (fun (W : World) (h : Below w.heap.size w W) => hB.to h h.size)
  clear hA hB
  go_enter Tryd.func52, Tryd.ntmps52
  go_wp2
  go_loopw [5] (fun i wr => ∃ k : Nat, k ≤ l.length ∧ i = .int .i64 k ∧ Below w.heap.size w wr) (fun i _ => l.length - (intOf i).toNat)
  case atStart => exact ⟨0, by omega, rfl, Below.refl _ _⟩
  case round =>
    obtain ⟨k, hk, rfl, hbw⟩ := hrel
    have HW := Lib.hid hbw
    clear hbw
    by_cases hlt : k < l.length
    · obtain ⟨b1, p1, rfl, _, c0, c1⟩ := (HA.out _ HW.out).at_ hlt
      obtain ⟨b2, p2, rfl, _, d0, d1⟩ := (HB.out _ HW.out).at_ hlt
      generalize (asg l k).v = v at *
      generalize (asg l k).x = x at *
      go_wp2
      go_quiet (fail)
      go_wp2
      go_roundw
      case rel => exact ⟨k + 1, by omega, by go_num, belowN HW.out _⟩
      case measure => simp [intOf]; omega
    · have hge : ¬ ((k : Int) < l.length) := by omega
      go_wp2
      go_ret
      exact ⟨rfl, HW.out⟩
/-- The boxes of the two tasks. -/
structure SMu (w W : World) (x : MT) (bz bi bg bo : Option Addr) (dz di dg do_ : Nat) : Prop where
  below : Below w.heap.size w W
  q1 : Quad W w.heap.size (.slice x.az x.sizes.length x.cz) (.slice x.ai x.init.length x.ci) (.slice x.ag x.goal.length x.cg) (.slice x.ao x.ops.length x.co)
  q2 : Quad W (w.heap.size + 1) (.slice bz x.sizes.length dz) (.slice bi x.init.length di) (.slice bg x.goal.length dg) (.slice bo x.ops.length do_)
theorem SMu.to {w W W' : World} {x : MT} {bz bi bg bo : Option Addr} {dz di dg do_ : Nat} (h : SMu w W x bz bi bg bo dz di dg do_) (hb : Below W.heap.size W W') : SMu w W' x bz bi bg bo dz di dg do_ := ⟨h.below.trans (hb.mono h.below.size), h.q1.to hb h.q1.lt, h.q2.to hb h.q2.lt⟩
theorem smu_new (w : World) (x : MT) (bz bi bg bo : Option Addr) (dz di dg do_ : Nat) : SMu w ((w.alloc (.cells #[.slice x.az x.sizes.length x.cz, .slice x.ai x.init.length x.ci, .slice x.ag x.goal.length x.cg, .slice x.ao x.ops.length x.co] 38)).alloc (.cells #[.slice bz x.sizes.length dz, .slice bi x.init.length di, .slice bg x.goal.length dg, .slice bo x.ops.length do_] 38)) x bz bi bg bo dz di dg do_ := by
  have q := quad_new w (.slice x.az x.sizes.length x.cz) (.slice x.ai x.init.length x.ci) (.slice x.ag x.goal.length x.cg) (.slice x.ao x.ops.length x.co) 38
  have z := quad_new (w.alloc (.cells #[.slice x.az x.sizes.length x.cz, .slice x.ai x.init.length x.ci, .slice x.ag x.goal.length x.cg, .slice x.ao x.ops.length x.co] 38)) (.slice bz x.sizes.length dz) (.slice bi x.init.length di) (.slice bg x.goal.length dg) (.slice bo x.ops.length do_) 38
  exact ⟨by go_grown, q.to (al_b _ _) (by simp), by simpa using z⟩
set_option maxHeartbeats 4000000 in
theorem sameMulti_any (x : MT) (bz bi bg bo : Option Addr) (dz di dg do_ : Nat) (w : World) (hX : MTIn w w.heap.size x) (hY : MTIn w w.heap.size ⟨x.sizes, x.init, x.goal, x.ops, bz, bi, bg, bo, dz, di, dg, do_⟩) :
    Calls Tryd.prog 15 #[.agg #[.slice x.az x.sizes.length x.cz, .slice x.ai x.init.length x.ci, .slice x.ag x.goal.length x.cg, .slice x.ao x.ops.length x.co], .agg #[.slice bz x.sizes.length dz, .slice bi x.init.length di, .slice bg x.goal.length dg, .slice bo x.ops.length do_]] w fun e w' => e = .returned (.bool true) ∧ Below w.heap.size w w' := by
  have hno : x.ops.length ≤ maxLen := Nat.le_trans hX.ops.le hX.ops.max
  unfold maxLen at hno
  have hS := Lib.hid (smu_new w x bz bi bg bo dz di dg do_)
  have HI1 := Lib.hid (fun (W : World) (h : Below w.heap.size w W) => ints_same x.az bz x.cz dz x.sizes x.sizes rfl W (hX.sizes.to h h.size) (hY.sizes.to h h.size))
  have HI2 := Lib.hid (fun (W : World) (h : Below w.heap.size w W) => ints_same x.ai bi x.ci di x.init x.init rfl W (hX.init.to h h.size) (hY.init.to h h.size))
  have HI3 := Lib.hid (fun (W : World) (h : Below w.heap.size w W) => sameAsg_any x.ag bg x.cg dg x.goal W (hX.goal.to h h.size) (hY.goal.to h h.size))
  have HX := Lib.hid (fun (W : World) (h : Below w.heap.size w W) => hX.ops.to h h.size)
  have HY := Lib.hid (fun (W : World) (h : Below w.heap.size w W) => hY.ops.to h h.size)
  clear hX hY
  go_enter Tryd.func15, Tryd.ntmps15
  obtain ⟨_, ⟨_, s0, s1, s2, s3, _⟩, ⟨_, t0, t1, t2, t3, _⟩⟩ := hS.out
  go_wp2_with (first | (go_at_call 16; (with_reducible refine (HI1.out _ hS.out.below).mono ?_); rintro e w5 ⟨rfl, hb⟩; have hS := Lib.hid (hS.out.to hb); clear hb; obtain ⟨_, ⟨_, s0, s1, s2, s3, _⟩, ⟨_, t0, t1, t2, t3, _⟩⟩ := hS.out) | (go_at_call 16; (with_reducible refine (HI2.out _ hS.out.below).mono ?_); rintro e w6 ⟨rfl, hb⟩; have hS := Lib.hid (hS.out.to hb); clear hb; obtain ⟨_, ⟨_, s0, s1, s2, s3, _⟩, ⟨_, t0, t1, t2, t3, _⟩⟩ := hS.out) | (go_at_call 52; (with_reducible refine (HI3.out _ hS.out.below).mono ?_); rintro e w7 ⟨rfl, hb⟩; have hS := Lib.hid (hS.out.to hb); clear hb; obtain ⟨_, ⟨_, s0, s1, s2, s3, _⟩, ⟨_, t0, t1, t2, t3, _⟩⟩ := hS.out))
  go_loopw [5] (fun i wr => ∃ k : Nat, k ≤ x.ops.length ∧ i = .int .i64 k ∧ SMu w wr x bz bi bg bo dz di dg do_) (fun i _ => x.ops.length - (intOf i).toNat)
  case atStart => exact ⟨0, by omega, rfl, hS.out⟩
  case round =>
    clear s0 s1 s2 s3 t0 t1 t2 t3
    clear hS
    obtain ⟨k, hk, rfl, hs⟩ := hrel
    have hS := Lib.hid hs
    clear hs
    obtain ⟨_, ⟨_, s0, s1, s2, s3, _⟩, ⟨_, t0, t1, t2, t3, _⟩⟩ := hS.out
    by_cases hlt : k < x.ops.length
    case neg =>
      have hge : ¬ ((k : Int) < x.ops.length) := by omega
      go_wp2
      go_ret
      exact ⟨rfl, hS.out.below⟩
    obtain ⟨b, p, a1, a2, c1, c2, hao, _, ⟨q0, q1, q2⟩, hv1, hv2⟩ := (HX.out _ hS.out.below).at_ hlt
    obtain ⟨b', p', e1, e2, d1, d2, hbo, _, ⟨r0, r1, r2⟩, hv1', hv2'⟩ := (HY.out _ hS.out.below).at_ hlt
    rw [hao] at s3
    rw [hbo] at t3
    have HAO := Lib.hid hao
    have HBO := Lib.hid hbo
    clear hao hbo
    have ho : mop (MT.ops ⟨x.sizes, x.init, x.goal, x.ops, bz, bi, bg, bo, dz, di, dg, do_⟩) k = mop x.ops k := rfl
    rw [ho] at r0 r1 r2 hv1' hv2'
    clear ho
    generalize mop x.ops k = o at *
    have ha1 := al_b wr (.cells #[.slice a1 o.pre.length c1, .slice a2 o.post.length c2, .int .i64 o.cost] 75)
    have ha2 := al_b (wr.alloc (.cells #[.slice a1 o.pre.length c1, .slice a2 o.post.length c2, .int .i64 o.cost] 75)) (.cells #[.slice e1 o.pre.length d1, .slice e2 o.post.length d2, .int .i64 o.cost] 75)
    have hQ := Lib.hid (ha1.trans (ha2.mono ha1.size))
    have HJ1 := Lib.hid (fun (W : World) (h : Below wr.heap.size wr W) => sameAsg_any a1 e1 c1 d1 o.pre W (hv1.to h h.size) (hv1'.to h h.size))
    have HJ2 := Lib.hid (fun (W : World) (h : Below wr.heap.size wr W) => sameAsg_any a2 e2 c2 d2 o.post W (hv2.to h h.size) (hv2'.to h h.size))
    have hS := Lib.hid (hS.out.to hQ.out)
    have hP := Lib.hid ((tri_new wr (.slice a1 o.pre.length c1) (.slice a2 o.post.length c2) (.int .i64 o.cost) 75).to ha2)
    have hR := Lib.hid (tri_new (wr.alloc (.cells #[.slice a1 o.pre.length c1, .slice a2 o.post.length c2, .int .i64 o.cost] 75)) (.slice e1 o.pre.length d1) (.slice e2 o.post.length d2) (.int .i64 o.cost) 75)
    rw [World.size_alloc] at hR
    clear ha1 ha2 hv1 hv1' hv2 hv2'
    go_wp2_with (first | (go_at_call 52; (with_reducible refine (HJ1.out _ hQ.out).mono ?_); rintro e w5 ⟨rfl, hb⟩; have hS := Lib.hid (hS.out.to hb); have hP := Lib.hid (hP.out.to hb); have hR := Lib.hid (hR.out.to hb); have hQ := Lib.hid (hQ.out.trans (hb.mono hQ.out.size)); clear hb; obtain ⟨_, u0, u1, u2⟩ := hP.out; obtain ⟨_, v0, v1, v2⟩ := hR.out) | (go_at_call 52; (with_reducible refine (HJ2.out _ hQ.out).mono ?_); rintro e w6 ⟨rfl, hb⟩; have hS := Lib.hid (hS.out.to hb); have hP := Lib.hid (hP.out.to hb); have hR := Lib.hid (hR.out.to hb); have hQ := Lib.hid (hQ.out.trans (hb.mono hQ.out.size)); clear hb; obtain ⟨_, u0, u1, u2⟩ := hP.out; obtain ⟨_, v0, v1, v2⟩ := hR.out))
    go_roundw
    case rel => exact ⟨k + 1, by omega, by go_num, hS.out⟩
    case measure => simp [intOf]; omega
end Go.Proofs.YtiaobanloakplaaDoor
