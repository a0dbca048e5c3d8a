/- Kaq, Ken, Ksq in one text. -/
import Derived.Test.YtiaobanloakplaaDoorKD
import Derived.RangeFuncNested
import Derived.RangeFuncBound
import Derived.RangeFuncCalls
import Derived.RangeFuncLeaves
import Derived.RangeFuncFrom
import Derived.Shelf.Abstract
import Derived.Shelf.RegionOpen
import Derived.OwnWalkIn
import Derived.TacticsInMore
import Derived.LoopNIn
import Derived.LoopIn
import Derived.Deep.RegionHeld3

/- Applies, After and CostOf of the reference. -/
section
namespace Go.Proofs.YtiaobanloakplaaDoor
open Go.RowKit
set_option linter.unusedSimpArgs false
set_option linter.unusedVariables false
set_option maxRecDepth 100000

theorem TBox.alloc {w : World} {g : Nat} {x : Tsk} (h : TBox w g x) (o : Obj) : TBox (w.alloc o) g x := h.to ((Below.refl _ _).alloc (Nat.le_refl _) o) h.lt

theorem aftL_eq (n : Nat) (add del s : List Int) : aftL n add del s = facs n (fun p => hasB add p || (hasB s p && !hasB del p)) := rfl

end Go.Proofs.YtiaobanloakplaaDoor
end

/- CostOf, Ends, Works and Solves of the reference. -/
section
namespace Go.Proofs.YtiaobanloakplaaDoor
open Go.RowKit
set_option linter.unusedSimpArgs false
set_option linter.unusedVariables false
set_option maxRecDepth 100000

/-- The state after the first k steps, if they can be executed. -/
def runTo (x : Tsk) (n : Nat) (s plan : List Int) : Nat → Option (List Int)
  | 0 => some s
  | k + 1 => match runTo x n s plan k with
    | none => none
    | some t => if subB (opn x (ix plan k)).pre t then some (aftL n (opn x (ix plan k)).add (opn x (ix plan k)).del t) else none
theorem runTo_step {x : Tsk} {n : Nat} {s plan t : List Int} {k : Nat} (h : runTo x n s plan k = some t) : runTo x n s plan (k + 1) = if subB (opn x (ix plan k)).pre t then some (aftL n (opn x (ix plan k)).add (opn x (ix plan k)).del t) else none := by
  simp only [runTo, h]
theorem runTo_none {x : Tsk} {n : Nat} {s plan : List Int} {k : Nat} (h : runTo x n s plan k = none) : ∀ j, k ≤ j → runTo x n s plan j = none := by
  intro j hj
  induction j with
  | zero => have : k = 0 := by omega
            subst this; exact h
  | succ j ih =>
    by_cases e : k = j + 1
    · subst e; exact h
    · simp only [runTo, ih (by omega)]

theorem TBox.drewN {w : World} {g : Nat} {x : Tsk} (h : TBox w g x) (n : Nat) : TBox (w.drewN n) g x := ⟨h.lt, h.c0, h.c1, h.c2, h.c3⟩
theorem TBox.drew {w : World} {g : Nat} {x : Tsk} (h : TBox w g x) : TBox w.drew g x := ⟨h.lt, h.c0, h.c1, h.c2, h.c3⟩

def EndsPost (w : World) (r : Option (List Int)) (e : Ending) (w' : World) : Prop := ∃ v, e = .returned (.tuple #[v, .bool r.isSome]) ∧ SliceOf w' v (r.getD []) ∧ Below w.heap.size w w'

/-- A plan leads from s to the goal. -/
def solB (x : Tsk) (n : Nat) (s plan : List Int) : Bool := match runTo x n s plan plan.length with | none => false | some t => subB x.goal t

end Go.Proofs.YtiaobanloakplaaDoor
end

/- The iterator over the states of a plan: states and states$1 of package strips. -/
section
namespace Go.Proofs.YtiaobanloakplaaDoor
open Go.RowKit Go.Shelf
set_option linter.unusedSimpArgs false
set_option linter.unusedVariables false
set_option maxRecDepth 100000

attribute [local go_sem] Oper.semAt_some

/-- The states from step i on, with their numbers; f steps of fuel. -/
def seqN (x : Tsk) (n : Nat) (s plan : List Int) : Nat → Nat → List (Nat × List Int)
  | 0, _ => []
  | f + 1, i => match runTo x n s plan i with
    | none => []
    | some t => (i, t) :: seqN x n s plan f (i + 1)
def seqL (x : Tsk) (n : Nat) (s plan : List Int) : List (Nat × List Int) := seqN x n s plan (plan.length + 1) 0
theorem seqN_none {x : Tsk} {n : Nat} {s plan : List Int} {f i : Nat} (h : runTo x n s plan i = none) : seqN x n s plan f i = [] := by
  cases f with
  | zero => rfl
  | succ f => simp only [seqN, h]
theorem seqN_some {x : Tsk} {n : Nat} {s plan t : List Int} {f i : Nat} (h : runTo x n s plan i = some t) : seqN x n s plan (f + 1) i = (i, t) :: seqN x n s plan f (i + 1) := by
  simp only [seqN, h]
theorem runTo_isS {x : Tsk} {n : Nat} {s plan : List Int} (hs : IsS s n) : ∀ (k : Nat) (t : List Int), runTo x n s plan k = some t → IsS t n
  | 0, t, h => by simp only [runTo, Option.some.injEq] at h; subst h; exact hs
  | k + 1, t, h => by
    cases hr : runTo x n s plan k with
    | none => simp only [runTo, hr] at h; cases h
    | some u =>
      rw [runTo_step hr] at h
      split at h
      · injection h with h; subst h; exact aftL_isS _ _ _ _
      · cases h
def stW (r : Option (List Int)) (m : Nat) : Prop := match r with | none => True | some t => m = mask t

/-- All blocks below n₀ but r lie as they lay. -/
structure Kept (r n₀ : Nat) (A B : World) : Prop where
  os : B.os = A.os
  tape : B.tape = A.tape
  output : B.output = A.output
  size : A.heap.size ≤ B.heap.size
  block : ∀ k, k < n₀ → k ≠ r → B.heap[k]? = A.heap[k]?
theorem Kept.below {r n₀ b0 : Nat} {A B : World} (h : Kept r n₀ A B) (hr : b0 ≤ r) (hn : b0 ≤ n₀) : Below b0 A B :=
  ⟨h.os, h.tape, h.output, h.size, fun k hk => h.block k (by omega) (by omega)⟩
theorem Kept.of {r n₀ : Nat} {A B : World} (h : Below n₀ A B) : Kept r n₀ A B := ⟨h.os, h.tape, h.output, h.size, fun k hk _ => h.block k hk⟩
theorem Kept.trans {r n₀ : Nat} {A B C : World} (h : Kept r n₀ A B) (k : Kept r n₀ B C) : Kept r n₀ A C :=
  ⟨k.os.trans h.os, k.tape.trans h.tape, k.output.trans h.output, Nat.le_trans h.size k.size, fun i hi hr => (k.block i hi hr).trans (h.block i hi hr)⟩
theorem kept_b {r n₀ : Nat} {w : World} (hn : n₀ ≤ w.heap.size) (W : World) (l : Nat) (o o' : Obj) (hl : w.heap.size ≤ l) (h : W.heap[l]? = some o) (h1 : o.isCells = false) (h2 : o.isWalk = false) : Kept r n₀ W (W.putObj l o') :=
  Kept.of (belowK_b hn W l o o' hl h h1 h2)

/-- What the iterator reads. -/
structure SqIn (W : World) (b0 r n₀ Bp Bt : Nat) (x : Tsk) (a3 : Option Addr) (c3 : Nat) (plan : List Int) : Prop where
  le : n₀ ≤ W.heap.size
  bn : b0 ≤ n₀
  br : b0 ≤ r
  lp : Bp < n₀
  np : Bp ≠ r
  lt : Bt < n₀
  nt : Bt ≠ r
  cp : W.cell? ⟨Bp, 0, none⟩ = some (.slice a3 plan.length c3)
  box : TBox W Bt x
  tsk : TskIn W b0 x
  pl : Lst W b0 a3 c3 plan
theorem SqIn.to {W W' : World} {b0 r n₀ Bp Bt : Nat} {x : Tsk} {a3 : Option Addr} {c3 : Nat} {plan : List Int} (h : SqIn W b0 r n₀ Bp Bt x a3 c3 plan) (hb : Kept r n₀ W W') : SqIn W' b0 r n₀ Bp Bt x a3 c3 plan :=
  ⟨Nat.le_trans h.le hb.size, h.bn, h.br, h.lp, h.np, h.lt, h.nt, (World.cell?_of_block (hb.block Bp h.lp h.np)).trans h.cp,
    ⟨Nat.lt_of_lt_of_le h.box.lt hb.size, (World.cell?_of_block (a := ⟨Bt, 0, none⟩) (hb.block Bt h.lt h.nt)).trans h.box.c0, (World.cell?_of_block (a := ⟨Bt, 1, none⟩) (hb.block Bt h.lt h.nt)).trans h.box.c1,
      (World.cell?_of_block (a := ⟨Bt, 2, none⟩) (hb.block Bt h.lt h.nt)).trans h.box.c2, (World.cell?_of_block (a := ⟨Bt, 3, none⟩) (hb.block Bt h.lt h.nt)).trans h.box.c3⟩,
    h.tsk.to (hb.below h.br h.bn) (Nat.le_refl _), h.pl.to (hb.below h.br h.bn) (Nat.le_refl _)⟩

section
variable {W V V' : World} {g e b0 b q q0 : Nat} {u0 v0 w0 u1 u2 u3 u4 : Value}
theorem sq_step (hg : g < W.heap.size) (he : e < W.heap.size) (hb0 : b0 < W.heap.size) (hb : b < W.heap.size)
    (h : V.cell? ⟨g, 3, none⟩ = some u0 ∧ V.cell? ⟨e, 0, none⟩ = some v0 ∧ V.cell? ⟨b0, q0, none⟩ = some w0 ∧ V.cell? ⟨b, q, none⟩ = some u1 ∧ V.cell? ⟨b, q + 1, none⟩ = some u2 ∧ V.cell? ⟨b, q + 2, none⟩ = some u3 ∧ V.cell? ⟨b, q + 3, none⟩ = some u4 ∧ Below W.heap.size W V) (h2 : Below V.heap.size V V') :
    V'.cell? ⟨g, 3, none⟩ = some u0 ∧ V'.cell? ⟨e, 0, none⟩ = some v0 ∧ V'.cell? ⟨b0, q0, none⟩ = some w0 ∧ V'.cell? ⟨b, q, none⟩ = some u1 ∧ V'.cell? ⟨b, q + 1, none⟩ = some u2 ∧ V'.cell? ⟨b, q + 2, none⟩ = some u3 ∧ V'.cell? ⟨b, q + 3, none⟩ = some u4 ∧ Below W.heap.size W V' := by
  obtain ⟨h0, h01, h02, h1, hh2, h3, h4, h5⟩ := h
  have hz := h5.size
  exact ⟨(h2.cell (p := ⟨g, 3, none⟩) (by show g < _; omega)).trans h0, (h2.cell (p := ⟨e, 0, none⟩) (by show e < _; omega)).trans h01, (h2.cell (p := ⟨b0, q0, none⟩) (by show b0 < _; omega)).trans h02,
    (h2.cell (p := ⟨b, q, none⟩) (by show b < _; omega)).trans h1, (h2.cell (p := ⟨b, q + 1, none⟩) (by show b < _; omega)).trans hh2,
    (h2.cell (p := ⟨b, q + 2, none⟩) (by show b < _; omega)).trans h3, (h2.cell (p := ⟨b, q + 3, none⟩) (by show b < _; omega)).trans h4, h5.trans (h2.mono hz)⟩
theorem sq_below {P1 P2 P3 P4 P5 P6 P7 : Prop} (h : P1 ∧ P2 ∧ P3 ∧ P4 ∧ P5 ∧ P6 ∧ P7 ∧ Below W.heap.size W V) : Below W.heap.size W V := h.2.2.2.2.2.2.2
end
theorem grownN (W : World) : W.grownBy W.drew none := ⟨rfl, rfl, rfl, Nat.le_refl _, fun _ _ _ => rfl⟩

set_option maxRecDepth 100000 in
set_option maxHeartbeats 4000000 in
theorem states1_in (n : Nat) (hn : 2 ≤ n) (l Bs Bp Bt b0 r n₀ : Nat) (x : Tsk) (nn : Nat) (hv : Val x nn) (a2 a3 : Option Addr) (c2 c3 : Nat) (s plan : List Int) (hs : IsS s nn) (h60 : plan.length ≤ 60) (hpl : planB x.ops.length plan = true)
    (J Jx : List (Nat × List Int) → World → Prop) (B : Nat) (hJ : AbidesFrom B J)
    (hY : ∀ pre y W, IsS y.2 nn → J pre W → pre.length < (seqL x nn s plan).length → YieldAt Fence.wide (n - 1) Tryd.prog l #[.int .i64 (y.1 : Nat), .int .u64 (mask y.2)] W fun e W' =>
      (e = .returned (.bool true) ∧ J (pre ++ [y]) W' ∧ Kept r n₀ W W') ∨ (e = .returned (.bool false) ∧ Jx (pre ++ [y]) W'))
    (W : World) (hBs : W.cell? ⟨Bs, 0, none⟩ = some (.slice a2 s.length c2)) (hS : Lst W W.heap.size a2 c2 s) (hI : SqIn W b0 r n₀ Bp Bt x a3 c3 plan) (h0 : J [] W) :
    CallsIn Fence.wide n Tryd.prog 83 #[.func (.yield l) #[] #[], .pointer (some ⟨Bs, 0, none⟩), .pointer (some ⟨Bp, 0, none⟩), .pointer (some ⟨Bt, 0, none⟩)] W fun e W' => (∃ v, e = .returned v) ∧
      ((∃ ys, ys = seqL x nn s plan ∧ J ys W') ∨ (∃ pre, pre <+: seqL x nn s plan ∧ Jx pre W')) := by
  have h1 : 1 ≤ n := by omega
  have h24 : ∀ {l : List Int}, IsS l nn → IsS l 24 := fun h => h.mono (by have := hv.le; omega)
  have HSO := Lib.hid (setOf_any a2 c2 s W (h24 hs) hS.nums)
  have HV := Lib.hid hv
  have HSS := Lib.hid hs
  have HPL := Lib.hid hpl
  have HI0 := Lib.hid hI
  clear hv hs hpl hS hI
  refine callsIn_of_wp Tryd.func83 rfl trivial ?_ rfl
  simp only [Tryd.ntmps83, List.size_toArray, List.length_cons, List.length_nil, Nat.reduceAdd, Nat.reduceSub, Array.replicate_succ, Array.replicate_zero, List.push_toArray, List.append_toArray, List.nil_append, List.cons_append]
  gi_wp2_with (refine ⟨trivial, ?_⟩; gi_at_call 40; refine (callsIn_wide.2 HSO.out).mono ?_; rintro e w' ⟨rfl, rfl⟩)
  gi_loopw [5, 6, 7] (fun st ok i wr => ∃ (pre : List (Nat × List Int)) (k m : Nat), i = .int .i64 k ∧ ok = .bool (runTo x nn s plan k).isSome ∧ st = .int .u64 m ∧ k ≤ plan.length ∧ seqL x nn s plan = pre ++ seqN x nn s plan (plan.length + 1 - k) k ∧ stW (runTo x nn s plan k) m ∧ SqIn wr b0 r n₀ Bp Bt x a3 c3 plan ∧ J pre wr)
    (fun _ _ i _ => plan.length - (intOf i).toNat)
  case atStart => exact ⟨[], 0, _, rfl, rfl, rfl, by omega, rfl, rfl, HI0.out, h0⟩
  case round =>
    obtain ⟨pre, k, m0, rfl, rfl, rfl, hk, hx, hst, hI, hJs⟩ := hrel
    have HX := Lib.hid hx
    have HI := Lib.hid hI
    clear hx hI
    cases hr : runTo x nn s plan k with
    | none =>
      have HE := Lib.hid (show seqL x nn s plan = pre by rw [HX.out, seqN_none hr, List.append_nil])
      clear hst
      gi_wp2
      all_goals (try refine ⟨fun _ h => (by cases h), ?_⟩)
      all_goals gi_wp2
      all_goals
        go_end0
        exact ⟨⟨_, rfl⟩, .inl ⟨_, HE.out.symm, hJs⟩⟩
    | some t =>
      have hsm : m0 = mask t := by rw [hr] at hst; exact hst
      obtain rfl : m0 = mask t := hsm
      have HR := Lib.hid hr
      have HX2 := Lib.hid (show seqL x nn s plan = pre ++ (k, t) :: seqN x nn s plan (plan.length - k) (k + 1) by
        rw [HX.out, show plan.length + 1 - k = (plan.length - k) + 1 by omega, seqN_some hr])
      clear hst
      obtain ⟨fn, tmps, assign, body, hy, hRD⟩ := hY pre (k, t) wr (runTo_isS HSS.out k t HR.out) hJs (by rw [HX2.out]; simp)
      dsimp only at hy
      obtain ⟨_, _, _, _, _, _, _, cp, ⟨_, t0, t1, t2, t3⟩, _, _⟩ := HI.out
      gi_wp2
      refine hRD.mono ?_
      rintro e W3 (⟨rfl, hJ3, hk3⟩ | ⟨rfl, hJx3⟩)
      · have cp3 := (HI.out.to hk3).cp
        by_cases hlt : k < plan.length
        case neg =>
          obtain rfl : k = plan.length := by omega
          have hge : ¬ ((plan.length : Int) < plan.length) := by omega
          gi_wp2
          go_end0
          refine ⟨⟨_, rfl⟩, .inl ⟨_, ?_, hJ3⟩⟩
          rw [HX2.out, Nat.sub_self]; rfl
        case pos =>
          have HI3 := Lib.hid (HI.out.to hk3)
          obtain ⟨g0, g1⟩ := planB_at HPL.out hlt
          have HS1 := Lib.hid (runTo_step HR.out)
          obtain ⟨m, hm⟩ := Int.eq_ofNat_of_zero_le g0
          unfold opn at HS1
          rw [hm, Int.toNat_natCast] at HS1
          rw [hm] at g0 g1
          have hlt2 : m < x.ops.length := by omega
          gi_wp2
          obtain ⟨e0, q0, hao3, hb0, hc0⟩ := HI3.out.pl.nums.at_ hlt
          rw [hm] at hc0
          clear hm
          rw [hao3] at cp3
          obtain ⟨b, p, a1, a2', a3', c1, c2', c3', hao, hbl, ⟨r0, r1, r2, r3⟩, hOV⟩ := HI3.out.tsk.ops.at_ hlt2
          obtain ⟨_, _, _, _, _, _, _, _, ⟨_, _, _, _, z3⟩, _, _⟩ := HI3.out
          rw [hao] at z3
          have hn3 : b0 ≤ W3.heap.size := Nat.le_trans HI3.out.bn HI3.out.le
          have hn4 := HI3.out.le
          have HOV := Lib.hid (hOV.to (B' := W3.heap.size) (Below.refl _ W3) hn3)
          have HL1 := Lib.hid (show Bt < W3.heap.size by have := HI3.out.lt; omega)
          have HL2 := Lib.hid (show Bp < W3.heap.size by have := HI3.out.lp; omega)
          have HL3 := Lib.hid (show e0 < W3.heap.size by omega)
          have HL4 := Lib.hid (show b < W3.heap.size by omega)
          have HO := Lib.hid (HV.out.ops m hlt2).1
          have HTS := Lib.hid (runTo_isS HSS.out k t HR.out)
          clear hOV hbl hb0 t0 t1 t2 t3 cp
          have hWW := Below.refl W3.heap.size W3
          refine wpIn_wide.2 ?_
          go_region_held3 (fun V => V.cell? ⟨Bt, 3, none⟩ = some (.slice (some ⟨b, p, none⟩) x.ops.length x.co) ∧ V.cell? ⟨Bp, 0, none⟩ = some (.slice (some ⟨e0, q0, none⟩) plan.length c3) ∧ V.cell? ⟨e0, q0 + k, none⟩ = some (.int .i64 m) ∧ V.cell? ⟨b, p + m * 4, none⟩ = some (.slice a1 (opr x.ops m).pre.length c1) ∧ V.cell? ⟨b, p + m * 4 + 1, none⟩ = some (.slice a2' (opr x.ops m).add.length c2') ∧ V.cell? ⟨b, p + m * 4 + 2, none⟩ = some (.slice a3' (opr x.ops m).del.length c3') ∧ V.cell? ⟨b, p + m * 4 + 3, none⟩ = some (.int .i64 (opr x.ops m).cost) ∧ Below W3.heap.size W3 V)
            (first | (refine ⟨?_, ?_, ?_, ?_, ?_, ?_, ?_, ?_⟩ <;> assumption) | (exact ⟨z3, cp3, hc0, r0, r1, r2, r3, hWW.drew⟩) | (exact sq_step HL1.out HL2.out HL3.out HL4.out (by assumption) (by assumption)))
            (first
              | (go_at_call 84; refine (after_any nn HV.out.le (opr x.ops m) a1 a2' a3' c1 c2' c3' t _ HO.out HTS.out ?_).mono ?_; (exact HOV.out.to (sq_below (by assumption)) (sq_below (by assumption)).size); rintro e w' ⟨rfl, hb⟩))
          all_goals
            have hb9 : Below W3.heap.size W3 w' := sq_below (by assumption)
            have HB9 := Lib.hid hb9
            have HJ9 := Lib.hid (hJ _ _ _ none hJ3 (grown_of_below hb9 none) (fun r e => by cases e))
            clear hb9
            gi_wp2
            go_roundw
            case rel =>
              refine ⟨pre ++ [(k, t)], k + 1, aftW nn (opr x.ops m) t, by go_num, ?_, rfl, by omega, ?_, ?_, HI3.out.to (Kept.of (HB9.out.mono HI3.out.le)), HJ9.out⟩
              · rw [HS1.out]; cases subB (opr x.ops m).pre t <;> rfl
              · rw [HX2.out, show plan.length + 1 - (k + 1) = plan.length - k by omega]; simp
              · rw [HS1.out]
                unfold aftW
                cases subB (opr x.ops m).pre t
                · exact trivial
                · show _ = _
                  simp
            case measure => simp [intOf]; omega
      · gi_wp2
        go_end0
        exact ⟨⟨_, rfl⟩, .inr ⟨_, by rw [HX2.out]; exact ⟨seqN x nn s plan (plan.length - k) (k + 1), by simp⟩, hJx3⟩⟩

theorem states_in (F : Fence) (n : Nat) (h : F.fn 64) (hro : F.round = none) (x : Tsk) (a2 a3 : Option Addr) (m2 m3 c2 c3 : Nat) (w : World) :
    CallsIn F n Tryd.prog 64 #[.agg #[.int .i64 x.n, .slice x.ai x.init.length x.ci, .slice x.ag x.goal.length x.cg, .slice x.ao x.ops.length x.co], .slice a2 m2 c2, .slice a3 m3 c3] w fun e w' => e = .returned (.func (.func 83) #[] #[.pointer (some ⟨w.heap.size + 1, 0, none⟩), .pointer (some ⟨w.heap.size + 1 + 1, 0, none⟩), .pointer (some ⟨w.heap.size, 0, none⟩)]) ∧
      w' = ((w.alloc (.cells #[.int .i64 x.n, .slice x.ai x.init.length x.ci, .slice x.ag x.goal.length x.cg, .slice x.ao x.ops.length x.co] 25)).alloc (.cells #[.slice a2 m2 c2] 22)).alloc (.cells #[.slice a3 m3 c3] 22) := by
  refine callsIn_of_wp Tryd.func64 rfl h ?_ hro
  simp only [Tryd.ntmps64, List.size_toArray, List.length_cons, List.length_nil, Nat.reduceAdd, Nat.reduceSub, Array.replicate_succ, Array.replicate_zero, List.push_toArray, List.append_toArray, List.nil_append, List.cons_append]
  gi_wp2
  go_ret
  exact ⟨rfl, rfl⟩

/-- A step's number and a state. -/
abbrev StA := { y : Nat × List Int // IsS y.2 24 }
theorem seqN_mem {x : Tsk} {n : Nat} {s plan : List Int} : ∀ (f i : Nat) (y : Nat × List Int), y ∈ seqN x n s plan f i → runTo x n s plan y.1 = some y.2 ∧ i ≤ y.1
  | 0, _, _, h => by simp [seqN] at h
  | f + 1, i, y, h => by
    cases hr : runTo x n s plan i with
    | none => simp [seqN, hr] at h
    | some t =>
      rw [seqN_some hr, List.mem_cons] at h
      rcases h with rfl | h
      · exact ⟨hr, Nat.le_refl _⟩
      · have := seqN_mem f (i + 1) y h
        exact ⟨this.1, by omega⟩
theorem seqN_has {x : Tsk} {n : Nat} {s plan t : List Int} {m : Nat} (hm : runTo x n s plan m = some t) : ∀ (f i : Nat), i ≤ m → m < i + f → (m, t) ∈ seqN x n s plan f i
  | 0, _, _, h => by omega
  | f + 1, i, h1, h2 => by
    cases hr : runTo x n s plan i with
    | none => rw [runTo_none hr m h1] at hm; cases hm
    | some u =>
      rw [seqN_some hr, List.mem_cons]
      by_cases e : i = m
      · subst e
        rw [hr] at hm
        injection hm with hm
        subst hm
        exact .inl rfl
      · exact .inr (seqN_has hm f (i + 1) (by omega) (by omega))

/-- The iterator's word, for a loop that begins in a world of which all below n₀ but r is kept. -/
theorem states_stops (n : Nat) (hn : 2 ≤ n) (Bs Bp Bt b0 r n₀ : Nat) (x : Tsk) (nn : Nat) (hv : Val x nn) (a2 a3 : Option Addr) (c2 c3 : Nat) (s plan : List Int) (hs : IsS s nn) (h60 : plan.length ≤ 60) (hpl : planB x.ops.length plan = true)
    (w : World) (hlt : Bs < w.heap.size) (hBs : w.cell? ⟨Bs, 0, none⟩ = some (.slice a2 s.length c2)) (hS : Lst w w.heap.size a2 c2 s) (hI : SqIn w b0 r n₀ Bp Bt x a3 c3 plan) :
    SeqStopsK Fence.wide n Tryd.prog 83 #[.pointer (some ⟨Bs, 0, none⟩), .pointer (some ⟨Bp, 0, none⟩), .pointer (some ⟨Bt, 0, none⟩)] (fun y : StA => #[Value.int .i64 (y.1.1 : Nat), Value.int .u64 (mask y.1.2)]) (Kept r n₀) (fun ys => ys.map Subtype.val = seqL x nn s plan) (fun pre => pre.map Subtype.val <+: seqL x nn s plan) (seqL x nn s plan).length w := by
  intro l J Jx W hW hJ _ hY h0
  have h := states1_in n hn l Bs Bp Bt b0 r n₀ x nn hv a2 a3 c2 c3 s plan hs h60 hpl (fun pre W => ∃ p : List StA, p.map Subtype.val = pre ∧ J p W) (fun pre W => ∃ p : List StA, p.map Subtype.val = pre ∧ Jx p W) W.heap.size
    (fun pre V V' row ⟨p, e, hp⟩ hg hr => ⟨p, e, hJ p V V' row hp hg hr⟩)
    (fun pre y V hy ⟨p, e, hp⟩ hl => (hY p ⟨y, hy.mono (by have := hv.le; omega)⟩ V hp (by rw [← List.length_map (f := Subtype.val), e]; exact hl)).mono fun e' V' hh => by
      rcases hh with ⟨h1, h2, h3⟩ | ⟨h1, h2⟩
      · exact .inl ⟨h1, ⟨_, by rw [List.map_append, e]; rfl, h2⟩, h3⟩
      · exact .inr ⟨h1, ⟨_, by rw [List.map_append, e]; rfl, h2⟩⟩)
    W ((hW.cell (p := ⟨Bs, 0, none⟩) hlt).trans hBs) (hS.to hW hW.size) (hI.to (Kept.of (hW.mono hI.le))) ⟨[], rfl, h0⟩
  refine CallsIn.mono h fun e V hh => ?_
  obtain ⟨h1, ⟨ys, rfl, p, e2, hp⟩ | ⟨pre, hpre, p, e2, hp⟩⟩ := hh
  · exact ⟨h1, .inl ⟨p, e2, hp⟩⟩
  · exact ⟨h1, .inr ⟨p, (show p.map Subtype.val <+: seqL x nn s plan by rw [e2]; exact hpre), hp⟩⟩
end Go.Proofs.YtiaobanloakplaaDoor
end
