/- Play of package strips. -/
import Derived.Test.YtiaobanloakplaaDoorKso
import Derived.RangeFuncBox
import Derived.Maps.AppendAt
namespace Go.Proofs.YtiaobanloakplaaDoor
open Go.RowKit Go.Shelf
set_option linter.unusedSimpArgs false
set_option linter.unusedVariables false
set_option maxRecDepth 100000

attribute [local go_sem] Oper.semAt_some

def rw_ (ls : List (List Int)) (k : Nat) : List Int := ls.getD k []
/-- The slice at a holds the rows ls, below block B. -/
def Rws (w : World) (B : Nat) (a : Option Addr) (ls : List (List Int)) : Prop :=
  0 < ls.length → ∃ b o, a = some ⟨b, o, none⟩ ∧ b < B ∧ ∀ k, k < ls.length → ∃ ak ck, w.cell? ⟨b, o + k, none⟩ = some (.slice ak (rw_ ls k).length ck) ∧ Lst w B ak ck (rw_ ls k)
theorem Rws.to {w w' : World} {B B' : Nat} {a : Option Addr} {ls : List (List Int)} (h : Rws w B a ls) (hb : Below B w w') (hB : B ≤ B') : Rws w' B' a ls := by
  intro h0
  obtain ⟨b, o, ha, hlt, hc⟩ := h h0
  refine ⟨b, o, ha, by omega, fun k hk => ?_⟩
  obtain ⟨ak, ck, q1, q2⟩ := hc k hk
  exact ⟨ak, ck, (hb.cell (p := ⟨b, o + k, none⟩) hlt).trans q1, q2.to hb hB⟩
theorem Rws.at_ {w : World} {B : Nat} {a : Option Addr} {ls : List (List Int)} (h : Rws w B a ls) {k : Nat} (hk : k < ls.length) : ∃ b o ak ck, a = some ⟨b, o, none⟩ ∧ b < B ∧ w.cell? ⟨b, o + k, none⟩ = some (.slice ak (rw_ ls k).length ck) ∧ Lst w B ak ck (rw_ ls k) := by
  obtain ⟨b, o, ha, hlt, hc⟩ := h (by omega)
  obtain ⟨ak, ck, q1, q2⟩ := hc k hk
  exact ⟨b, o, ak, ck, ha, hlt, q1, q2⟩
/-- Some slice that holds the rows ls. -/
def SliceOf2 (w : World) (v : Value) (ls : List (List Int)) : Prop := ∃ a c, v = .slice a ls.length c ∧ Rws w w.heap.size a ls ∧ ls.length ≤ c ∧ c ≤ maxLen
theorem SliceOf2.to {w w' : World} {v : Value} {ls : List (List Int)} (h : SliceOf2 w v ls) (hb : Below w.heap.size w w') : SliceOf2 w' v ls := by
  obtain ⟨a, c, rfl, hn, h1, h2⟩ := h
  exact ⟨a, c, rfl, hn.to hb hb.size, h1, h2⟩

/-- The value v owns a row of values, each of which owns a list of ls. -/
def Own2 (W : World) (base : Nat) (v : Value) (ls : List (List Int)) : Prop :=
  ∃ vals : List Value, W.ownsRow base 22 1 v ls.length vals ∧ vals.length = ls.length ∧ ∀ k, k < ls.length → ∃ u, vals[k]? = some u ∧ W.ownsRow base 3 1 u (rw_ ls k).length ((rw_ ls k).map (Value.int .i64))
theorem rows_ne {W : World} {base base2 e e2 size size2 n m : Nat} {v u : Value} {xs ys : List Value} (he : e ≠ e2) (hv : W.ownsRow base e size v n xs) (hu : W.ownsRow base2 e2 size2 u m ys) : u.ownBlock = none ∨ u.ownBlock ≠ v.ownBlock := by
  rcases hu.2 with ⟨rfl, _⟩ | ⟨g, cap, cur, rfl, _, hg, _⟩
  · exact .inl rfl
  · refine .inr (fun e' => ?_)
    rcases hv.2 with ⟨rfl, _⟩ | ⟨g2, cap2, cur2, rfl, _, hg2, _⟩
    · simp [Value.ownBlock] at e'
    · simp [Value.ownBlock] at e'
      subst e'
      rw [hg] at hg2
      simp at hg2
      exact he hg2.2.symm
theorem Own2.slice {W : World} {base : Nat} {v : Value} {ls : List (List Int)} (h : Own2 W base v ls) : SliceOf2 W v ls := by
  obtain ⟨vals, ho, hl, hr⟩ := h
  rcases ho.2 with ⟨rfl, h0⟩ | ⟨g, cap, cur, rfl, hg, hh, hn, hcap, hcs, hx⟩
  · exact ⟨none, 0, by rw [h0], fun h => by omega, by omega, by simp [maxLen]⟩
  · refine ⟨_, cap, rfl, fun h0 => ⟨g, 0, rfl, (Array.getElem?_eq_some_iff.1 hh).1, fun k hk => ?_⟩, hn, hcap⟩
    obtain ⟨u, hu, hou⟩ := hr k hk
    obtain ⟨ak, ck, rfl, hlst⟩ := (sliceOf_own hou).set
    refine ⟨ak, ck, ?_, hlst⟩
    have := ho.cells (g := g) rfl k _ hu
    simpa [Addr.add_lit] using this
theorem Own2.kept {W W' : World} {base : Nat} {v : Value} {ls : List (List Int)} {row : Option Nat} (h : Own2 W base v ls) (hg : W.grownBy W' row) (hr : ∀ r, row = some r → ∃ o : Obj, W.heap[r]? = some o ∧ o.isCells = false) : Own2 W' base v ls := by
  have key : ∀ {e n : Nat} {u : Value} {xs : List Value}, W.ownsRow base e 1 u n xs → W'.ownsRow base e 1 u n xs := by
    intro e n u xs hu
    refine World.ownsRow.kept hu hg ?_
    rcases hu.2 with ⟨rfl, _⟩ | ⟨g, cap, cur, rfl, _, hgb, _⟩
    · exact .inl rfl
    · refine .inr fun e' => ?_
      obtain ⟨o, ho, hc⟩ := hr g (by simpa [Value.ownBlock] using e'.symm)
      rw [hgb] at ho; cases ho; cases hc
  obtain ⟨vals, ho, hl, hk⟩ := h
  exact ⟨vals, key ho, hl, fun k hlt => by obtain ⟨u, hu, hou⟩ := hk k hlt; exact ⟨u, hu, key hou⟩⟩
theorem Own2.to {W W' : World} {base : Nat} {v : Value} {ls : List (List Int)} (h : Own2 W base v ls) (hb : Below W.heap.size W W') : Own2 W' base v ls :=
  h.kept (grown_of_below hb none) (fun r e => by cases e)
theorem Own2.far {W : World} {base : Nat} {v : Value} {ls : List (List Int)} (h : Own2 W base v ls) {p : Addr} (hp : p.block < base) (u : Value) : Own2 (W.setCell p u) base v ls := by
  obtain ⟨vals, ho, hl, hk⟩ := h
  exact ⟨vals, ownsRow_setCell_below ho hp u, hl, fun k hlt => by obtain ⟨q, hq, hoq⟩ := hk k hlt; exact ⟨q, hq, ownsRow_setCell_below hoq hp u⟩⟩
theorem sliceOf2_nil (w : World) : SliceOf2 w (.slice none 0 0) [] := ⟨none, 0, rfl, fun h => by simp at h, by simp, by simp [maxLen]⟩
theorem rw_snoc_lt {ls : List (List Int)} {t : List Int} {k : Nat} (h : k < ls.length) : rw_ (ls ++ [t]) k = rw_ ls k := by simp [rw_, List.getD, List.getElem?_append, h]
theorem rw_snoc_last (ls : List (List Int)) (t : List Int) : rw_ (ls ++ [t]) ls.length = t := by simp [rw_, List.getD]
/-- A row more: behind the append and the store into the variable's box. -/
theorem Own2.snoc {W w1 : World} {base B : Nat} {v v' u : Value} {ls : List (List Int)} {t : List Int} {vals : List Value} {tmp : Obj} {tb : TypeId} (hv : W.ownsRow base 22 1 v ls.length vals) (hl : vals.length = ls.length)
    (hk : ∀ k, k < ls.length → ∃ u, vals[k]? = some u ∧ W.ownsRow base 3 1 u (rw_ ls k).length ((rw_ ls k).map (Value.int .i64))) (hu : W.ownsRow base 3 1 u t.length (t.map (Value.int .i64)))
    (hown : w1.ownsRow base 22 1 v' (ls.length + 1) (vals ++ [u])) (hg : (W.alloc tmp).grownBy w1 v.ownBlock) (hB : B < base) (z : Value) :
    Own2 (w1.setCell ⟨B, 0, none⟩ z) base v' (ls ++ [t]) := by
  have key : ∀ {n : Nat} {q : Value} {xs : List Value}, W.ownsRow base 3 1 q n xs → (w1.setCell ⟨B, 0, none⟩ z).ownsRow base 3 1 q n xs := by
    intro n q xs hq
    exact ownsRow_setCell_below ((hq.alloc tmp).kept hg (rows_ne (by decide) (hv.alloc tmp) (hq.alloc tmp))) hB z
  refine ⟨vals ++ [u], ?_, by simp [hl], fun k hlt => ?_⟩
  · have := ownsRow_setCell_below hown (a := ⟨B, 0, none⟩) hB z
    simpa using this
  · simp only [List.length_append, List.length_cons, List.length_nil] at hlt
    by_cases e : k < ls.length
    · obtain ⟨q, hq, hoq⟩ := hk k e
      refine ⟨q, by rw [List.getElem?_append_left (by omega)]; exact hq, ?_⟩
      rw [rw_snoc_lt e]
      exact key hoq
    · obtain rfl : k = ls.length := by omega
      refine ⟨u, by rw [← hl]; simp, ?_⟩
      rw [rw_snoc_last]
      exact key hu
theorem Own2.nil (W : World) (base : Nat) : Own2 W base (.slice none 0 0) [] := ⟨[], World.ownsRow_nil _ _ _ _, rfl, fun k h => by simp at h⟩

theorem info_sl : (Tryd.prog.info? 22).map (fun i => (i.zero, i.size, i.bytes)) = some (some (.slice none 0 0), 1, 24) := by kernel_rfl

/-- The fault of Play: the number of states that are reached tells the step that fails. -/
def plyF (x : Tsk) (s plan : List Int) : Int × Int := if (ckF x s plan).1 ≠ 0 then ckF x s plan else if (runTo x x.n.toNat s plan plan.length).isSome then (0, 0) else (11, ((seqL x x.n.toNat s plan).length : Int) - 1)
def plyL (x : Tsk) (s plan : List Int) : List (List Int) := if (plyF x s plan).1 = 0 then (seqL x x.n.toNat s plan).map (·.2) else []
/-- The rows stand in blocks from base on: whatever changes elsewhere, they stand. -/
def Fresh2 (W : World) (base : Nat) (v : Value) (ls : List (List Int)) : Prop :=
  ∀ W2 : World, (∀ b, base ≤ b → b < W.heap.size → W2.heap[b]? = W.heap[b]?) → W.heap.size ≤ W2.heap.size → SliceOf2 W2 v ls
theorem Fresh2.slice {W : World} {base : Nat} {v : Value} {ls : List (List Int)} (h : Fresh2 W base v ls) : SliceOf2 W v ls := h W (fun _ _ _ => rfl) (Nat.le_refl _)
theorem fresh2_nil (W : World) (base : Nat) : Fresh2 W base (.slice none 0 0) [] := fun W2 _ _ => sliceOf2_nil W2
theorem Own2.fresh {W : World} {base b0 : Nat} {v : Value} {ls : List (List Int)} (h : Own2 W base v ls) (hb : b0 ≤ base) : Fresh2 W b0 v ls := by
  intro W2 hw _
  have key : ∀ {e n : Nat} {u : Value} {xs : List Value}, W.ownsRow base e 1 u n xs → W2.ownsRow base e 1 u n xs := by
    intro e n u xs hu
    rcases hu with ⟨h1, h2 | ⟨g, cap, cur, e1, hg, hh, h3⟩⟩
    · exact ⟨h1, .inl h2⟩
    · exact ⟨h1, .inr ⟨g, cap, cur, e1, hg, (hw g (Nat.le_trans hb hg) (Array.getElem?_eq_some_iff.1 hh).1).trans hh, h3⟩⟩
  obtain ⟨vals, ho, hl, hk⟩ := h
  exact Own2.slice (base := base) ⟨vals, key ho, hl, fun k hlt => by obtain ⟨u, hu, hou⟩ := hk k hlt; exact ⟨u, hu, key hou⟩⟩
def PlayPost (w : World) (f : Int × Int) (ls : List (List Int)) (e : Ending) (w' : World) : Prop := ∃ v, e = .returned (.tuple #[v, faultV f]) ∧ Fresh2 w' w.heap.size v ls ∧ Below w.heap.size w w'
theorem seqN_len {x : Tsk} {n : Nat} {s plan : List Int} : ∀ (f i : Nat), (seqN x n s plan f i).length ≤ f
  | 0, _ => by simp [seqN]
  | f + 1, i => by
    cases hr : runTo x n s plan i with
    | none => simp [seqN, hr]
    | some t => rw [seqN_some hr, List.length_cons]; have := seqN_len (x := x) (n := n) (s := s) (plan := plan) f (i + 1); omega
theorem Fr1.kept {w W W' : World} {x : Tsk} {u v : Int} {row : Option Nat} (h : Fr1 w W x u v) (hg : W.grownBy W' row) (hr : ∀ r, row = some r → w.heap.size ≤ r ∧ ∃ o : Obj, W.heap[r]? = some o ∧ o.isCells = false) : Fr1 w W' x u v :=
  ⟨h.below.grown hg h.below.size (fun r e => (hr r e).1), h.box.kept hg (fun r e => (hr r e).2), h.two.kept hg (fun r e => (hr r e).2)⟩
theorem ck_val {x : Tsk} {s plan : List Int} (h : (ckF x s plan).1 = 0) : Val x x.n.toNat ∧ IsS s x.n.toNat ∧ plan.length ≤ 60 ∧ planB x.ops.length plan = true :=
  ⟨(stF_val (ckF_zero h).2.1).1, (stF_val (ckF_zero h).2.1).2, (ckF_zero h).2.2.1, (ckF_zero h).2.2.2⟩

theorem seqN_full {x : Tsk} {n : Nat} {s plan t : List Int} : ∀ (f i : Nat), runTo x n s plan (i + f) = some t → (seqN x n s plan (f + 1) i).length = f + 1
  | 0, i, h => by rw [Nat.add_zero] at h; rw [seqN_some h]; simp [seqN]
  | f + 1, i, h => by
    cases hr : runTo x n s plan i with
    | none => rw [runTo_none hr _ (by omega)] at h; cases h
    | some u => rw [seqN_some hr, List.length_cons, seqN_full f (i + 1) (by rw [show i + 1 + f = i + (f + 1) by omega]; exact h)]
theorem seqN_part {x : Tsk} {n : Nat} {s plan : List Int} : ∀ (f i : Nat), runTo x n s plan (i + f) = none → (seqN x n s plan (f + 1) i).length ≤ f
  | 0, i, h => by rw [Nat.add_zero] at h; rw [seqN_none h]; simp
  | f + 1, i, h => by
    cases hr : runTo x n s plan i with
    | none => rw [seqN_none hr]; simp
    | some u => rw [seqN_some hr, List.length_cons]; have := seqN_part (x := x) (n := n) (s := s) (plan := plan) f (i + 1) (by rw [show i + 1 + f = i + (f + 1) by omega]; exact h); omega
theorem seqL_pos (x : Tsk) (n : Nat) (s plan : List Int) : 1 ≤ (seqL x n s plan).length := by
  unfold seqL
  rw [seqN_some (t := s) rfl]; simp
def stL (pre : List StA) : List (List Int) := pre.map (fun y => y.1.2)
theorem stL_snoc (pre : List StA) (y : StA) : stL (pre ++ [y]) = stL pre ++ [y.1.2] := by simp [stL]
theorem stL_len (pre : List StA) : (stL pre).length = pre.length := by simp [stL]

theorem opIn_append {F : Fence} {n : Nat} {P : Program} {w w2 : World} {o : Oper} {a : Act} {K : Act → World → Prop} {Q : Exit → Act → World → Prop} {v v2 y : Value} (s x : Operand) (t : TypeId)
    (hop : o.op = Op.call { callee := Callee.builtin Builtin.append, args := #[s, x], argTypes := #[t, t] }) (hs : a.eval s = v) (hx : a.eval x = y) (hrun : (Builtin.append_ #[t, t] o.type #[v, y]).run P w = .ok v2 w2) (hK : K (a.put o.dst v2) w2) : o.wpIn F n P a w K Q := by
  unfold Oper.wpIn
  refine ⟨?_, ?_⟩
  · simp [Oper.about, hop, resolve, Target.leads, Sem.run_pure]
  · rw [Oper.semAt_plain F _ _ (by rw [hop]; intro c hc'; cases hc')]
    simp [execOp, hop, resolve, invoke, builtin, hs, hx, hrun, Result.andThen]
    exact hK

/-- What a round of Play does: behind the call of list, the append and the store. -/
structure StepD (W wf : World) (B base : Nat) (v' : Value) (pre : List StA) (y : StA) : Prop where
  box : Boxed wf B 26 v'
  own : Own2 wf base v' (stL (pre ++ [y]))
  keeps : KeepsOthers W wf
  kept : Kept B base W wf
theorem play_step {W w5 : World} {B base : Nat} (hBb : B < base) (hbase : base ≤ W.heap.size) {v u : Value} {pre : List StA} {y : StA} (hbx : Boxed W B 26 v) (hown2 : Own2 W base v (stL pre)) (hlen : pre.length ≤ 60)
    (hb5 : Below W.drew.heap.size W.drew w5) (hou : w5.ownsRow W.drew.heap.size 3 1 u y.1.2.length (y.1.2.map (Value.int .i64))) :
    ∃ ak ck g cap w6, u = .slice ak y.1.2.length ck ∧ (Builtin.append_ #[26, 26] 26 #[v, .slice (some ⟨w5.heap.size, 0, none⟩) 1 1]).run Tryd.prog (w5.alloc (.cells #[.slice ak y.1.2.length ck] 22)) = .ok (.slice (some ⟨g, 0, none⟩) (pre.length + 1) cap) w6 ∧
      w6.cell? ⟨B, 0, none⟩ = some v ∧ w6.frozen? ⟨B, 0, none⟩ = false ∧ StepD W (w6.setCell ⟨B, 0, none⟩ (.slice (some ⟨g, 0, none⟩) (pre.length + 1) cap)) B base (.slice (some ⟨g, 0, none⟩) (pre.length + 1) cap) pre y := by
  obtain ⟨i0, hi, hz0, hz1, hz2⟩ := info_parts info_sl
  have hb6 : Below W.heap.size W w5 := (Below.refl _ _).drew.trans hb5
  obtain ⟨vals, hov, hvl, hvk⟩ := hown2.to hb6
  have hbx5 : Boxed w5 B 26 v := hbx.kept (grown_of_below hb6 none) (by simp)
  have hz5 := hb6.size
  have hou2 : w5.ownsRow base 3 1 u y.1.2.length (y.1.2.map (Value.int .i64)) := own_mono hou hbase
  obtain ⟨ak, ck, rfl, _⟩ := (sliceOf_own hou).set
  have hov' := hov
  rw [stL_len] at hov'
  obtain ⟨v', w6, hrun, hown6, hgrow, _⟩ := run_append_own (P := Tryd.prog) (w5.alloc (.cells #[.slice ak y.1.2.length ck] 22)) base 26 26 22 i0 (.slice none 0 0) 1 24 Tryd.underlying26 hi hz0 hz1 hz2 rfl (by decide) v pre.length vals (hov'.alloc _) ⟨w5.heap.size, 0, none⟩ 1 1 [.slice ak y.1.2.length ck] rfl (cell_one_new _ _ _) (by simp [Value.oneCell']) (by unfold maxLen; omega) (by omega) (by simp; omega)
  obtain ⟨g', cap', rfl⟩ := ownsRow_succ hown6
  have hap := hbx5.appended (n₀ := B) (by decide) (own_mono hov' (by omega)) (by omega) (Nat.le_refl _) (own_mono hown6 (by omega)) hgrow
  refine ⟨ak, ck, g', cap', w6, rfl, hrun, hap.1.cell, hap.1.frozen, hap.2.1, ?_, (keeps_of_below hb6).trans hap.2.2.2.1, ?_⟩
  · rw [stL_snoc]
    rw [← stL_len pre] at hown6
    have := Own2.snoc (tmp := .cells #[.slice ak y.1.2.length ck] 22) (tb := 26) hov hvl hvk hou2 hown6 hgrow hBb (.slice (some ⟨g', 0, none⟩) (pre.length + 1) cap')
    rw [stL_len] at this
    exact this
  · have k1 : Below base W w6 := ((hb6.mono hbase).alloc (by omega) _).grown hgrow (by simp; omega) (fun k hk => (hov.lt k hk).1)
    have k2 := grownBy_setCell' w6 B (.slice (some ⟨g', 0, none⟩) (pre.length + 1) cap')
    exact (Kept.of k1).trans ⟨k2.os, k2.tape, k2.output, k2.size, fun k hk hr => by
      have h6 := k1.size
      exact k2.block k (by omega) (fun e => hr (by injection e))⟩

set_option maxRecDepth 100000 in
set_option maxHeartbeats 4000000 in
theorem play_in (n : Nat) (hn3 : 8 ≤ n) (x : Tsk) (a2 a3 : Option Addr) (c2 c3 : Nat) (s plan : List Int) (w : World) (hX : TskIn w w.heap.size x) (hS : Lst w w.heap.size a2 c2 s) (hP : Lst w w.heap.size a3 c3 plan) (hT : TabIn w) (h0 : (ckF x s plan).1 = 0) :
    CallsIn Fence.wide n Tryd.prog 27 #[.agg #[.int .i64 x.n, .slice x.ai x.init.length x.ci, .slice x.ag x.goal.length x.cg, .slice x.ao x.ops.length x.co], .slice a2 s.length c2, .slice a3 plan.length c3] w (PlayPost w (plyF x s plan) (plyL x s plan)) := by
  have h1 : 1 ≤ n := by omega
  have hB1 : Below w.heap.size w ((w.alloc (.cells #[.int .i64 x.n, .slice x.ai x.init.length x.ci, .slice x.ag x.goal.length x.cg, .slice x.ao x.ops.length x.co] 25)).alloc (.cells #[.int .i64 0, .int .i64 0] 28)) := by go_grown
  have HC := check_any x a2 a3 c2 c3 s plan _ (hX.to hB1 hB1.size) (hS.to hB1 hB1.size) (hP.to hB1 hB1.size)
  have HX := Lib.hid (fun (W : World) (h : Below w.heap.size w W) => hX.to h (Nat.le_refl _))
  have HP := Lib.hid (fun (W : World) (h : Below w.heap.size w W) => hP.to h (Nat.le_refl _))
  have HSS := Lib.hid (fun (W : World) (h : Below w.heap.size w W) => hS.to h h.size)
  have HT := Lib.hid (fun (W : World) (h : Below w.heap.size w W) => hT.to h (Nat.le_refl _))
  clear hX hP hS hT
  obtain ⟨hv, hs, h60, hpl⟩ := ck_val h0
  have hF0 := Lib.hid (fr1_new w x 25 28)
  have HF := Lib.hid (show plyF x s plan = if (runTo x x.n.toNat s plan plan.length).isSome then (0, 0) else (11, ((seqL x x.n.toNat s plan).length : Int) - 1) by unfold plyF; rw [if_neg (by simpa using h0)])
  rw [(ckF_zero h0).1] at HC
  have HV := Lib.hid hv
  have HPL := Lib.hid hpl
  have HIS := Lib.hid hs
  clear h0 hv hpl hB1 hs
  obtain ⟨i0, hi, hz0, hz1, hz2⟩ := info_parts info_sl
  refine callsIn_of_wp_marks Tryd.func27 rfl trivial ?_ rfl
  simp only [Tryd.ntmps27, List.size_toArray, List.length_cons, List.length_nil, Nat.reduceAdd, Nat.reduceSub, Array.replicate_succ, Array.replicate_zero, List.push_toArray, List.append_toArray, List.nil_append, List.cons_append]
  gi_wp2_with (first
    | (refine ⟨trivial, ?_⟩; gi_at_call 64; refine (states_in Fence.wide (n - 1) trivial rfl x _ _ _ _ _ _ _).mono ?_; rintro e w2 ⟨rfl, rfl⟩)
    | (refine ⟨trivial, ?_⟩; gi_at_call 63; refine (callsIn_wide.2 HC).mono ?_; rintro e w' ⟨rfl, hbw⟩; have hF := Lib.hid (hF0.out.to hbw); obtain ⟨_, ⟨_, t0, t1, t2, t3⟩, ⟨_, k0, k1, f0, f1⟩⟩ := hF.out))
  have hBw := hF.out.below
  have hlt1 := hF.out.two.lt
  have hBL : Below w'.heap.size w' (((((w'.alloc (.cells #[.int .i64 0, .int .i64 0] 28)).alloc (.cells #[.slice none 0 0] 26)).alloc (.cells #[.int .i64 x.n, .slice x.ai x.init.length x.ci, .slice x.ag x.goal.length x.cg, .slice x.ao x.ops.length x.co] 25)).alloc (.cells #[.slice a2 s.length c2] 22)).alloc (.cells #[.slice a3 plan.length c3] 22)) := by go_grown
  have hBwL : Below w.heap.size w (((((w'.alloc (.cells #[.int .i64 0, .int .i64 0] 28)).alloc (.cells #[.slice none 0 0] 26)).alloc (.cells #[.int .i64 x.n, .slice x.ai x.init.length x.ci, .slice x.ag x.goal.length x.cg, .slice x.ao x.ops.length x.co] 25)).alloc (.cells #[.slice a2 s.length c2] 22)).alloc (.cells #[.slice a3 plan.length c3] 22)) := hBw.trans (hBL.mono (by omega))
  have b1 := Boxed.new (w'.alloc (.cells #[.int .i64 0, .int .i64 0] 28)) 26 (.slice none 0 0)
  have b2 := ((b1.alloc (.cells #[.int .i64 x.n, .slice x.ai x.init.length x.ci, .slice x.ag x.goal.length x.cg, .slice x.ao x.ops.length x.co] 25)).alloc (.cells #[.slice a2 s.length c2] 22)).alloc (.cells #[.slice a3 plan.length c3] 22)
  have c2' := (cell_new (((w'.alloc (.cells #[.int .i64 0, .int .i64 0] 28)).alloc (.cells #[.slice none 0 0] 26)).alloc (.cells #[.int .i64 x.n, .slice x.ai x.init.length x.ci, .slice x.ag x.goal.length x.cg, .slice x.ao x.ops.length x.co] 25)) (.slice a2 s.length c2) 22).1
  have c3' := (cell_new ((((w'.alloc (.cells #[.int .i64 0, .int .i64 0] 28)).alloc (.cells #[.slice none 0 0] 26)).alloc (.cells #[.int .i64 x.n, .slice x.ai x.init.length x.ci, .slice x.ag x.goal.length x.cg, .slice x.ao x.ops.length x.co] 25)).alloc (.cells #[.slice a2 s.length c2] 22)) (.slice a3 plan.length c3) 22).1
  have c1 := ((tbox_new ((w'.alloc (.cells #[.int .i64 0, .int .i64 0] 28)).alloc (.cells #[.slice none 0 0] 26)) x 25).alloc (.cells #[.slice a2 s.length c2] 22)).alloc (.cells #[.slice a3 plan.length c3] 22)
  simp only [World.size_alloc] at c1 c2' c3' b2
  have hI : SqIn (((((w'.alloc (.cells #[.int .i64 0, .int .i64 0] 28)).alloc (.cells #[.slice none 0 0] 26)).alloc (.cells #[.int .i64 x.n, .slice x.ai x.init.length x.ci, .slice x.ag x.goal.length x.cg, .slice x.ao x.ops.length x.co] 25)).alloc (.cells #[.slice a2 s.length c2] 22)).alloc (.cells #[.slice a3 plan.length c3] 22)) w.heap.size (w'.heap.size + 1) (w'.heap.size + 1 + 1 + 1 + 1 + 1) (w'.heap.size + 1 + 1 + 1 + 1) (w'.heap.size + 1 + 1) x a3 c3 plan :=
    ⟨by simp, by omega, by omega, by omega, by omega, by omega, by omega, c3', c1, HX.out _ hBwL, HP.out _ hBwL⟩
  refine wpIn_rangeFunc_ownF rfl h1 (gf := 83) (lb := #[.pointer (some ⟨w'.heap.size + 1 + 1 + 1, 0, none⟩), .pointer (some ⟨w'.heap.size + 1 + 1 + 1 + 1, 0, none⟩), .pointer (some ⟨w'.heap.size + 1 + 1, 0, none⟩)]) rfl trivial (enters_of Tryd.func83 (by kernel_rfl) rfl)
    (states_stops (n - 1) (by omega) (w'.heap.size + 1 + 1 + 1) (w'.heap.size + 1 + 1 + 1 + 1) (w'.heap.size + 1 + 1) w.heap.size (w'.heap.size + 1) (w'.heap.size + 1 + 1 + 1 + 1 + 1) x x.n.toNat HV.out a2 a3 c2 c3 s plan HIS.out h60 HPL.out (((((w'.alloc (.cells #[.int .i64 0, .int .i64 0] 28)).alloc (.cells #[.slice none 0 0] 26)).alloc (.cells #[.int .i64 x.n, .slice x.ai x.init.length x.ci, .slice x.ag x.goal.length x.cg, .slice x.ao x.ops.length x.co] 25)).alloc (.cells #[.slice a2 s.length c2] 22)).alloc (.cells #[.slice a3 plan.length c3] 22)) (by simp) (cell_past _ c2') (HSS.out _ hBwL) hI) Kept.trans (kept_b (by simp)) (Below.refl _ _) (fun _ => rfl)
    (fun pre W => ((∃ v, Boxed W (w'.heap.size + 1) 26 v ∧ Own2 W (w'.heap.size + 1 + 1 + 1 + 1 + 1) v (stL pre)) ∧ Fr1 w W x 0 0) ∧ w'.heap.size + 1 + 1 + 1 + 1 + 1 ≤ W.heap.size)
    (fun _ _ _ => False)
    (fun pre A B row ⟨⟨⟨v, q1, q2⟩, q3⟩, q4⟩ hg hr => ⟨⟨⟨v, q1.kept hg (fun e => by obtain ⟨_, o, ho, hc⟩ := hr _ e.symm; rw [show A.heap[_]? = _ from q1] at ho; cases ho; cases hc), q2.kept hg (fun r e => (hr r e).2)⟩, q3.kept hg (fun r e => ⟨by have := (hr r e).1; simp at this; omega, (hr r e).2⟩)⟩, Nat.le_trans q4 hg.size⟩)
    (fun c pre A B row h _ _ => h)
    ⟨⟨⟨_, b2, Own2.nil _ _⟩, hF.out.to hBL⟩, by simp⟩
    (fun y => { tmps := #[.agg #[.int .i64 x.n, .slice x.ai x.init.length x.ci, .slice x.ag x.goal.length x.cg, .slice x.ao x.ops.length x.co], .slice a2 s.length c2, .slice a3 plan.length c3, .pointer (some ⟨w.heap.size, 0, none⟩), undef, undef, .slice none 0 0, .pointer (some ⟨w.heap.size + 1, 0, none⟩), .pointer (some ⟨w'.heap.size, 0, none⟩), .pointer (some ⟨w'.heap.size + 1, 0, none⟩), undef, .int .u64 (mask y.1.2), undef, .agg #[.int .i64 x.n, .slice x.ai x.init.length x.ci, .slice x.ag x.goal.length x.cg, .slice x.ao x.ops.length x.co], .slice a2 s.length c2, .slice a3 plan.length c3, faultV (0, 0), .agg #[.int .i64 0, .int .i64 0], .agg #[.int .i64 0, .int .i64 0], .bool false, undef, .agg #[.int .i64 x.n, .slice x.ai x.init.length x.ci, .slice x.ag x.goal.length x.cg, .slice x.ao x.ops.length x.co], .slice a2 s.length c2, .slice a3 plan.length c3,
      .func (.func 83) #[] #[.pointer (some ⟨w'.heap.size + 1 + 1 + 1, 0, none⟩), .pointer (some ⟨w'.heap.size + 1 + 1 + 1 + 1, 0, none⟩), .pointer (some ⟨w'.heap.size + 1 + 1, 0, none⟩)], .int .i64 (y.1.1 : Nat), .int .u64 (mask y.1.2), undef, undef, undef, undef, undef, undef, undef, undef, undef, undef, undef, undef, undef, undef, undef, undef], defers := [] }) ?assign ?body ?done ?stop
  case assign =>
    intro l y W K hK
    gi_wp2
    exact hK
  case body =>
    rintro l pre y W ⟨⟨⟨v, hbx, hown2⟩, hfr⟩, hsz⟩ hlen
    have hd : 1 ≤ n - 1 - 1 := by omega
    have hmx : Tryd.prog.follows .mixedOrders = true := by kernel_rfl
    have hN : (seqL x x.n.toNat s plan).length ≤ plan.length + 1 := seqN_len _ _
    have HFR := Lib.hid hfr
    have HO2 := Lib.hid hown2
    have HBX := Lib.hid hbx
    clear hfr hown2
    have hc0 := hbx.cell
    have HTW := Lib.hid (HT.out W HFR.out.below)
    have hLS := list_any (mask y.1.2) (mask_lt64 y.2) W.drew ⟨HTW.out.lt, HTW.out.tab⟩
    rw [els_mask y.2] at hLS
    have HLS := Lib.hid hLS
    clear hLS
    gi_wp2
    refine wpIn_region_any hmx ?_
    change wpAnyIn _ _ _ _ _ _ _ _ _ (World.drew _)
    refine wpAnyIn_ready (rs := [0, 1]) (by kernel_rfl) (by simp) ?_
    refine AllReadyIn.cons rfl (fun K hK => ?_) (AllReadyIn.cons rfl (fun K hK => ?_) AllReadyIn.nil)
    · go_simp; refine hK _ _ ?_; clear hK K
      refine wpAnyIn_ready (rs := [1]) (by kernel_rfl) (by simp) ?_; refine AllReadyIn.cons rfl (fun K hK => ?_) AllReadyIn.nil
      go_simp; refine hK _ _ ?_; clear hK K
      refine wpAnyIn_ready (rs := [2]) (by kernel_rfl) (by simp) ?_; refine AllReadyIn.cons rfl (fun K hK => ?_) AllReadyIn.nil
      go_simp; refine ⟨trivial, ?_⟩; gi_at_call 39; refine (CallsIn.inRound l (callsIn_wide.2 HLS.out)).mono ?_; rintro e w5 ⟨u, rfl, hou, hb5⟩; obtain ⟨ak, ck, g, cap, w6, rfl, hrun, hc6, hf6, hD⟩ := play_step (by omega) hsz HBX.out HO2.out (by omega) hb5 hou; have HD := Lib.hid hD; have HRUN := Lib.hid hrun; clear hD hou hrun; refine hK _ _ ?_; clear hK K
      refine wpAnyIn_ready (rs := [3]) (by kernel_rfl) (by simp) ?_; refine AllReadyIn.cons rfl (fun K hK => ?_) AllReadyIn.nil
      go_simp; refine hK _ _ ?_; clear hK K
      refine wpAnyIn_ready (rs := [4]) (by kernel_rfl) (by simp) ?_; refine AllReadyIn.cons rfl (fun K hK => ?_) AllReadyIn.nil
      simp only [Region.wanted, if_true]; refine opIn_append _ _ _ rfl rfl rfl HRUN.out ?_; refine hK _ _ ?_; clear hK K; change wpAnyIn _ _ _ _ _ _ _ _ (Act.put _ (some 31) _) _; simp only [Act.put, List.setIfInBounds_toArray, List.set_cons_zero, List.set_cons_succ]
      refine wpAnyIn_ready (rs := [5]) (by kernel_rfl) (by simp) ?_; refine AllReadyIn.cons rfl (fun K hK => ?_) AllReadyIn.nil
      go_simp; refine hK _ _ ?_; clear hK K
      refine wpAnyIn_done (by kernel_rfl) ?_ _
      gi_wp2; (have hbB := HD.out.kept.below (b0 := w'.heap.size + 1) (Nat.le_refl _) (by omega)); exact ⟨HD.out.keeps, HD.out.kept, ⟨⟨_, HD.out.box, HD.out.own⟩, ⟨HFR.out.below.trans (hbB.mono (by omega)), HFR.out.box.to hbB (by omega), HFR.out.two.to hbB (by omega)⟩⟩, Nat.le_trans hsz HD.out.kept.size⟩
    · go_simp; refine hK _ _ ?_; clear hK K
      refine wpAnyIn_ready (rs := [0, 2]) (by kernel_rfl) (by simp) ?_
      refine AllReadyIn.cons rfl (fun K hK => ?_) (AllReadyIn.cons rfl (fun K hK => ?_) AllReadyIn.nil)
      · go_simp; refine hK _ _ ?_; clear hK K
        refine wpAnyIn_ready (rs := [2]) (by kernel_rfl) (by simp) ?_; refine AllReadyIn.cons rfl (fun K hK => ?_) AllReadyIn.nil
        go_simp; refine ⟨trivial, ?_⟩; gi_at_call 39; refine (CallsIn.inRound l (callsIn_wide.2 HLS.out)).mono ?_; rintro e w5 ⟨u, rfl, hou, hb5⟩; obtain ⟨ak, ck, g, cap, w6, rfl, hrun, hc6, hf6, hD⟩ := play_step (by omega) hsz HBX.out HO2.out (by omega) hb5 hou; have HD := Lib.hid hD; have HRUN := Lib.hid hrun; clear hD hou hrun; refine hK _ _ ?_; clear hK K
        refine wpAnyIn_ready (rs := [3]) (by kernel_rfl) (by simp) ?_; refine AllReadyIn.cons rfl (fun K hK => ?_) AllReadyIn.nil
        go_simp; refine hK _ _ ?_; clear hK K
        refine wpAnyIn_ready (rs := [4]) (by kernel_rfl) (by simp) ?_; refine AllReadyIn.cons rfl (fun K hK => ?_) AllReadyIn.nil
        simp only [Region.wanted, if_true]; refine opIn_append _ _ _ rfl rfl rfl HRUN.out ?_; refine hK _ _ ?_; clear hK K; change wpAnyIn _ _ _ _ _ _ _ _ (Act.put _ (some 31) _) _; simp only [Act.put, List.setIfInBounds_toArray, List.set_cons_zero, List.set_cons_succ]
        refine wpAnyIn_ready (rs := [5]) (by kernel_rfl) (by simp) ?_; refine AllReadyIn.cons rfl (fun K hK => ?_) AllReadyIn.nil
        go_simp; refine hK _ _ ?_; clear hK K
        refine wpAnyIn_done (by kernel_rfl) ?_ _
        gi_wp2; (have hbB := HD.out.kept.below (b0 := w'.heap.size + 1) (Nat.le_refl _) (by omega)); exact ⟨HD.out.keeps, HD.out.kept, ⟨⟨_, HD.out.box, HD.out.own⟩, ⟨HFR.out.below.trans (hbB.mono (by omega)), HFR.out.box.to hbB (by omega), HFR.out.two.to hbB (by omega)⟩⟩, Nat.le_trans hsz HD.out.kept.size⟩
      · go_simp; refine ⟨trivial, ?_⟩; gi_at_call 39; refine (CallsIn.inRound l (callsIn_wide.2 HLS.out)).mono ?_; rintro e w5 ⟨u, rfl, hou, hb5⟩; obtain ⟨ak, ck, g, cap, w6, rfl, hrun, hc6, hf6, hD⟩ := play_step (by omega) hsz HBX.out HO2.out (by omega) hb5 hou; have HD := Lib.hid hD; have HRUN := Lib.hid hrun; clear hD hou hrun; refine hK _ _ ?_; clear hK K
        have hc0' : w5.cell? ⟨w'.heap.size + 1, 0, none⟩ = some v := (((Below.refl _ _).drew.trans hb5).cell (p := ⟨w'.heap.size + 1, 0, none⟩) (by show w'.heap.size + 1 < W.heap.size; omega)).trans hc0
        refine wpAnyIn_ready (rs := [0, 3]) (by kernel_rfl) (by simp) ?_
        refine AllReadyIn.cons rfl (fun K hK => ?_) (AllReadyIn.cons rfl (fun K hK => ?_) AllReadyIn.nil)
        · go_simp; refine hK _ _ ?_; clear hK K
          refine wpAnyIn_ready (rs := [3]) (by kernel_rfl) (by simp) ?_; refine AllReadyIn.cons rfl (fun K hK => ?_) AllReadyIn.nil
          go_simp; refine hK _ _ ?_; clear hK K
          refine wpAnyIn_ready (rs := [4]) (by kernel_rfl) (by simp) ?_; refine AllReadyIn.cons rfl (fun K hK => ?_) AllReadyIn.nil
          simp only [Region.wanted, if_true]; refine opIn_append _ _ _ rfl rfl rfl HRUN.out ?_; refine hK _ _ ?_; clear hK K; change wpAnyIn _ _ _ _ _ _ _ _ (Act.put _ (some 31) _) _; simp only [Act.put, List.setIfInBounds_toArray, List.set_cons_zero, List.set_cons_succ]
          refine wpAnyIn_ready (rs := [5]) (by kernel_rfl) (by simp) ?_; refine AllReadyIn.cons rfl (fun K hK => ?_) AllReadyIn.nil
          go_simp; refine hK _ _ ?_; clear hK K
          refine wpAnyIn_done (by kernel_rfl) ?_ _
          gi_wp2; (have hbB := HD.out.kept.below (b0 := w'.heap.size + 1) (Nat.le_refl _) (by omega)); exact ⟨HD.out.keeps, HD.out.kept, ⟨⟨_, HD.out.box, HD.out.own⟩, ⟨HFR.out.below.trans (hbB.mono (by omega)), HFR.out.box.to hbB (by omega), HFR.out.two.to hbB (by omega)⟩⟩, Nat.le_trans hsz HD.out.kept.size⟩
        · go_simp; refine hK _ _ ?_; clear hK K
          have hc0'' := cell_past (.cells #[.slice ak y.1.2.length ck] 22) hc0'
          refine wpAnyIn_ready (rs := [0]) (by kernel_rfl) (by simp) ?_; refine AllReadyIn.cons rfl (fun K hK => ?_) AllReadyIn.nil
          go_simp; refine hK _ _ ?_; clear hK K
          refine wpAnyIn_ready (rs := [4]) (by kernel_rfl) (by simp) ?_; refine AllReadyIn.cons rfl (fun K hK => ?_) AllReadyIn.nil
          simp only [Region.wanted, if_true]; refine opIn_append _ _ _ rfl rfl rfl HRUN.out ?_; refine hK _ _ ?_; clear hK K; change wpAnyIn _ _ _ _ _ _ _ _ (Act.put _ (some 31) _) _; simp only [Act.put, List.setIfInBounds_toArray, List.set_cons_zero, List.set_cons_succ]
          refine wpAnyIn_ready (rs := [5]) (by kernel_rfl) (by simp) ?_; refine AllReadyIn.cons rfl (fun K hK => ?_) AllReadyIn.nil
          go_simp; refine hK _ _ ?_; clear hK K
          refine wpAnyIn_done (by kernel_rfl) ?_ _
          gi_wp2; (have hbB := HD.out.kept.below (b0 := w'.heap.size + 1) (Nat.le_refl _) (by omega)); exact ⟨HD.out.keeps, HD.out.kept, ⟨⟨_, HD.out.box, HD.out.own⟩, ⟨HFR.out.below.trans (hbB.mono (by omega)), HFR.out.box.to hbB (by omega), HFR.out.two.to hbB (by omega)⟩⟩, Nat.le_trans hsz HD.out.kept.size⟩
  case done =>
    rintro D ys W hD hys ⟨⟨⟨v, hbx, hown2⟩, hfr⟩, hsz⟩ hK
    have HE := Lib.hid (show stL ys = (seqL x x.n.toNat s plan).map (·.2) by rw [← hys]; simp [stL])
    have hlen : (stL ys).length = (seqL x x.n.toNat s plan).length := by rw [HE.out]; simp
    have hN : (seqL x x.n.toNat s plan).length ≤ plan.length + 1 := seqN_len _ _
    have hN1 := seqL_pos x x.n.toNat s plan
    clear hys
    have HFR := Lib.hid hfr
    have HO2 := Lib.hid hown2
    obtain ⟨av, cv, rfl, _, _, _⟩ := hown2.slice
    rw [hlen] at hbx HO2
    have hc9 := hbx.cell
    clear hlen hfr
    obtain ⟨_, _, ⟨_, k0, k1, f0, f1⟩⟩ := HFR.out
    cases hr : runTo x x.n.toNat s plan plan.length with
    | none =>
      have hle : (seqL x x.n.toNat s plan).length ≤ plan.length := seqN_part plan.length 0 (by rw [Nat.zero_add]; exact hr)
      have HF2 := Lib.hid (show plyF x s plan = (11, ((seqL x x.n.toNat s plan).length : Int) - 1) by rw [HF.out, hr]; rfl)
      clear hr
      have HL2 := Lib.hid (show plyL x s plan = [] by unfold plyL; rw [HF2.out]; rfl)
      gi_wp2
      have hK' := ((KeepsOthers.setCell W ⟨w.heap.size + 1, 0, none⟩ (.int .i64 11)).trans (KeepsOthers.setCell _ ⟨w.heap.size + 1, 1, none⟩ (.int .i64 (((seqL x x.n.toNat s plan).length : Int) - 1)))).same D _ hK rfl
      have htw := (HFR.out.two.set (.int .i64 11) (.int .i64 (((seqL x x.n.toNat s plan).length : Int) - 1))).kept (grownBy_putObj' _ D (.deferred none)) (fun r e => by cases e; exact ⟨_, hK', rfl⟩)
      refine ⟨by simp, .inl ⟨_, _, rfl, run_takeDeferred hK', ?_⟩⟩
      obtain ⟨_, y2, y3, _, _⟩ := htw
      refine ⟨.tuple #[.slice none 0 0, .agg #[.int .i64 11, .int .i64 (((seqL x x.n.toNat s plan).length : Int) - 1)]], ?_, ?_⟩
      · simp [results, Tryd.f27, go_sem, y2, y3]
      · refine ⟨_, by rw [HF2.out], by rw [HL2.out]; exact fresh2_nil _ _, ?_⟩
        exact ((HFR.out.below.setCell (by simp) _).setCell (by simp) _).trans (belowK_b (w := w) (Nat.le_refl _) _ D _ _ (by simp at hD; omega) hK' rfl rfl)
    | some t =>
      have hle : (seqL x x.n.toNat s plan).length = plan.length + 1 := seqN_full plan.length 0 (by rw [Nat.zero_add]; exact hr)
      have HF2 := Lib.hid (show plyF x s plan = (0, 0) by rw [HF.out, hr]; rfl)
      have HL2 := Lib.hid (show plyL x s plan = stL ys by unfold plyL; rw [HF2.out, HE.out]; rfl)
      clear hr
      rw [hle] at HO2 hbx hc9
      have HBX := Lib.hid hbx
      clear hbx
      gi_wp2
      have hK' := ((KeepsOthers.setCell W ⟨w.heap.size + 1, 0, none⟩ (.int .i64 0)).trans (KeepsOthers.setCell _ ⟨w.heap.size + 1, 1, none⟩ (.int .i64 0))).same D _ hK rfl
      have htw := (HFR.out.two.set (.int .i64 0) (.int .i64 0)).kept (grownBy_putObj' _ D (.deferred none)) (fun r e => by cases e; exact ⟨_, hK', rfl⟩)
      have hO3 := (((HO2.out.far (p := ⟨w.heap.size + 1, 0, none⟩) (by show w.heap.size + 1 < _; omega) (.int .i64 0)).far (p := ⟨w.heap.size + 1, 1, none⟩) (by show w.heap.size + 1 < _; omega) (.int .i64 0))).kept (grownBy_putObj' _ D (.deferred none)) (fun r e => by cases e; exact ⟨_, hK', rfl⟩)
      refine ⟨by simp, .inl ⟨_, _, rfl, run_takeDeferred hK', ?_⟩⟩
      obtain ⟨_, y2, y3, _, _⟩ := htw
      refine ⟨.tuple #[.slice av (plan.length + 1) cv, .agg #[.int .i64 0, .int .i64 0]], ?_, ?_⟩
      · simp [results, Tryd.f27, go_sem, y2, y3]
      · refine ⟨_, by rw [HF2.out], by rw [HL2.out]; exact hO3.fresh (by omega), ?_⟩
        exact ((HFR.out.below.setCell (by simp) _).setCell (by simp) _).trans (belowK_b (w := w) (Nat.le_refl _) _ D _ _ (by simp at hD; omega) hK' rfl rfl)
  case stop =>
    rintro D c pre W _ _ h _
    exact h.elim

set_option maxRecDepth 100000 in
set_option maxHeartbeats 2000000 in
theorem play_any (x : Tsk) (a2 a3 : Option Addr) (c2 c3 : Nat) (s plan : List Int) (w : World) (hX : TskIn w w.heap.size x) (hS : Lst w w.heap.size a2 c2 s) (hP : Lst w w.heap.size a3 c3 plan) (hT : TabIn w) :
    Calls Tryd.prog 27 #[.agg #[.int .i64 x.n, .slice x.ai x.init.length x.ci, .slice x.ag x.goal.length x.cg, .slice x.ao x.ops.length x.co], .slice a2 s.length c2, .slice a3 plan.length c3] w (PlayPost w (plyF x s plan) (plyL x s plan)) := by
  by_cases h0 : (ckF x s plan).1 = 0
  · exact callsIn_wide.1 (play_in 8 (by omega) x a2 a3 c2 c3 s plan w hX hS hP hT h0)
  have hB1 : Below w.heap.size w ((w.alloc (.cells #[.int .i64 x.n, .slice x.ai x.init.length x.ci, .slice x.ag x.goal.length x.cg, .slice x.ao x.ops.length x.co] 25)).alloc (.cells #[.int .i64 0, .int .i64 0] 28)) := by go_grown
  have HC := check_any x a2 a3 c2 c3 s plan _ (hX.to hB1 hB1.size) (hS.to hB1 hB1.size) (hP.to hB1 hB1.size)
  clear hX hS hP hT hB1
  have hF0 := Lib.hid (fr1_new w x 25 28)
  have HF2 := Lib.hid (show plyF x s plan = ckF x s plan by unfold plyF; rw [if_pos h0])
  have HL2 := Lib.hid (show plyL x s plan = [] by unfold plyL; rw [HF2.out, if_neg h0])
  have hne : ((ckF x s plan).1 != 0) = true := by simpa using h0
  have hne2 : ((ckF x s plan).1 == 0) = false := by simpa using h0
  clear h0
  go_enter Tryd.func27, Tryd.ntmps27
  go_wp2_with (go_at_call 63; (with_reducible refine HC.mono ?_); rintro e w1 ⟨rfl, hbw⟩; have hF := Lib.hid (hF0.out.to hbw); obtain ⟨_, ⟨_, t0, t1, t2, t3⟩, ⟨_, k0, k1, f0, f1⟩⟩ := hF.out)
  go_region
  all_goals
    go_wp2
    have htw := hF.out.two
    have hbe := hF.out.below
    refine post_with_fault (g := w.heap.size + 1) (x := .int .i64 (ckF x s plan).1) (y := .int .i64 (ckF x s plan).2) Tryd.results27 rfl ?_ ?_
    · (repeat' (first | (with_reducible assumption) | (with_reducible exact two_new _ _ _ _) | (with_reducible exact (two_new _ _ _ _).pair) | (with_reducible exact Two.pair ‹_›) | (with_reducible refine Pair.set ?_ _ _) | (with_reducible refine Two.alloc ?_ _) | (with_reducible refine Pair.alloc ?_ _) | (with_reducible refine two1 ?_) | (with_reducible refine twoN ?_ _) | (with_reducible refine Pair.drew ?_) | (with_reducible refine Pair.drewN ?_ _) | (with_reducible refine Two.far ?_ ?_ _) | (with_reducible refine Pair.far ?_ ?_ _) | (simp; omega)))
    · refine ⟨_, by rw [HF2.out], by rw [HL2.out]; exact fresh2_nil _ _, ?_⟩
      (repeat' (first | (with_reducible assumption) | (with_reducible exact Below.refl _ _) | (with_reducible refine belowN ?_ _) | (with_reducible refine Below.alloc ?_ ?_ _) | (with_reducible refine Below.drew ?_) | (with_reducible refine Below.setCell ?_ ?_ _) | go_size))
end Go.Proofs.YtiaobanloakplaaDoor
