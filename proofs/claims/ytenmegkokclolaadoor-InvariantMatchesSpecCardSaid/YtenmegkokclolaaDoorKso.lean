/- Solves of package strips. -/
import Derived.Test.YtenmegkokclolaaDoorKsq
namespace Go.Proofs.YtenmegkokclolaaDoor
open Go.RowKit Go.Shelf
set_option linter.unusedSimpArgs false
set_option linter.unusedVariables false
set_option maxRecDepth 100000

attribute [local go_sem] Oper.semAt_some

def svB (x : Tsk) (plan : List Int) : Bool := decide ((plF x plan).1 = 0) && solB x x.n.toNat x.init plan

theorem one_box {W : World} {B : Nat} {v : Value} {t : TypeId} (h : W.heap[B]? = some (.cells #[v] t (0, 0))) : W.cell? ⟨B, 0, none⟩ = some v ∧ W.frozen? ⟨B, 0, none⟩ = false := by
  constructor <;> simp [World.cell?, World.frozen?, h]
theorem cell_new (W : World) (v : Value) (t : TypeId) : (W.alloc (.cells #[v] t)).cell? ⟨W.heap.size, 0, none⟩ = some v ∧ (W.alloc (.cells #[v] t)).frozen? ⟨W.heap.size, 0, none⟩ = false :=
  one_box (World.alloc_heap_new W _)
theorem cell_past {W : World} {a : Addr} {v : Value} (o : Obj) (h : W.cell? a = some v) : (W.alloc o).cell? a = some v := cell_kept h (World.grownBy_alloc W o none) (fun r e => by cases e)
theorem One.kept {W W' : World} {g : Nat} {x : Value} {row : Option Nat} (h : One W g x) (hg : W.grownBy W' row) (hr : ∀ r, row = some r → ∃ o : Obj, W.heap[r]? = some o ∧ o.isCells = false) : One W' g x :=
  ⟨Nat.lt_of_lt_of_le h.lt hg.size, cell_kept h.fst hg hr, (frozen_kept h.fst hg hr).trans h.ffst⟩
theorem Two.kept {W W' : World} {g : Nat} {x y : Value} {row : Option Nat} (h : Two W g x y) (hg : W.grownBy W' row) (hr : ∀ r, row = some r → ∃ o : Obj, W.heap[r]? = some o ∧ o.isCells = false) : Two W' g x y :=
  ⟨Nat.lt_of_lt_of_le h.lt hg.size, cell_kept h.fst hg hr, cell_kept h.snd hg hr, (frozen_kept h.fst hg hr).trans h.ffst, (frozen_kept h.snd hg hr).trans h.fsnd⟩
theorem TBox.kept {W W' : World} {g : Nat} {x : Tsk} {row : Option Nat} (h : TBox W g x) (hg : W.grownBy W' row) (hr : ∀ r, row = some r → ∃ o : Obj, W.heap[r]? = some o ∧ o.isCells = false) : TBox W' g x :=
  ⟨Nat.lt_of_lt_of_le h.lt hg.size, cell_kept h.c0 hg hr, cell_kept h.c1 hg hr, cell_kept h.c2 hg hr, cell_kept h.c3 hg hr⟩
theorem keeps_of_below {W W' : World} (h : Below W.heap.size W W') : KeepsOthers W W' :=
  ⟨h.size, fun k _ hk _ => (h.block k (Array.getElem?_eq_some_iff.1 hk).1).trans hk⟩

/-- What the call of Solves has laid: the task, the plan, its two results. -/
structure SBox (W : World) (g : Nat) (x : Tsk) (P : Value) (z : Bool) (u v : Int) : Prop where
  t : TBox W g x
  p : One W (g + 1) P
  z : One W (g + 1 + 1) (.bool z)
  f : Two W (g + 1 + 1 + 1) (.int .i64 u) (.int .i64 v)
theorem SBox.kept {W W' : World} {g : Nat} {x : Tsk} {P : Value} {z : Bool} {u v : Int} {row : Option Nat} (h : SBox W g x P z u v) (hg : W.grownBy W' row) (hr : ∀ r, row = some r → ∃ o : Obj, W.heap[r]? = some o ∧ o.isCells = false) : SBox W' g x P z u v :=
  ⟨h.t.kept hg hr, h.p.kept hg hr, h.z.kept hg hr, h.f.kept hg hr⟩
theorem SBox.to {W W' : World} {g : Nat} {x : Tsk} {P : Value} {z : Bool} {u v : Int} (h : SBox W g x P z u v) (hb : Below W.heap.size W W') : SBox W' g x P z u v :=
  ⟨h.t.to hb h.t.lt, one_to h.p hb, one_to h.z hb, two_to h.f hb⟩
theorem SBox.ret {W : World} {g : Nat} {x : Tsk} {P : Value} {z : Bool} {u v : Int} (h : SBox W g x P z u v) (q : Bool) :
    SBox (((W.setCell ⟨g + 1 + 1, 0, none⟩ (.bool q)).setCell ⟨g + 1 + 1 + 1, 0, none⟩ (.int .i64 0)).setCell ⟨g + 1 + 1 + 1, 1, none⟩ (.int .i64 0)) g x P q 0 0 := by
  refine ⟨?_, ?_, ?_, ?_⟩
  · exact ((h.t.far (by simp; omega) _).far (by simp; omega) _).far (by simp; omega) _
  · exact ((h.p.far (by simp) _).far (by simp; omega) _).far (by simp; omega) _
  · exact ((h.z.set _).far (by simp) _).far (by simp) _
  · exact (h.f.far (by simp) _).set _ _
theorem sbox_new (w : World) (x : Tsk) (P : Value) (t1 t2 t3 t4 : TypeId) :
    SBox ((((w.alloc (.cells #[.int .i64 x.n, .slice x.ai x.init.length x.ci, .slice x.ag x.goal.length x.cg, .slice x.ao x.ops.length x.co] t1)).alloc (.cells #[P] t2)).alloc (.cells #[.bool false] t3)).alloc (.cells #[.int .i64 0, .int .i64 0] t4)) w.heap.size x P false 0 0 := by
  refine ⟨((tbox_new w x t1).alloc _).alloc _ |>.alloc _, ?_, ?_, ?_⟩
  · have := ((one_new (w.alloc (.cells #[.int .i64 x.n, .slice x.ai x.init.length x.ci, .slice x.ag x.goal.length x.cg, .slice x.ao x.ops.length x.co] t1)) P t2).alloc (.cells #[.bool false] t3)).alloc (.cells #[.int .i64 0, .int .i64 0] t4)
    simpa using this
  · have := (one_new ((w.alloc (.cells #[.int .i64 x.n, .slice x.ai x.init.length x.ci, .slice x.ag x.goal.length x.cg, .slice x.ao x.ops.length x.co] t1)).alloc (.cells #[P] t2)) (.bool false) t3).alloc (.cells #[.int .i64 0, .int .i64 0] t4)
    simpa using this
  · have := two_new (((w.alloc (.cells #[.int .i64 x.n, .slice x.ai x.init.length x.ci, .slice x.ag x.goal.length x.cg, .slice x.ao x.ops.length x.co] t1)).alloc (.cells #[P] t2)).alloc (.cells #[.bool false] t3)) (.int .i64 0) (.int .i64 0) t4
    simpa using this

theorem solB_hit {x : Tsk} {n : Nat} {s plan t : List Int} (h : runTo x n s plan plan.length = some t) : solB x n s plan = subB x.goal t := by simp [solB, h]
theorem solB_miss {x : Tsk} {n : Nat} {s plan : List Int} {ys : List StA} (h : ys.map Subtype.val = seqL x n s plan) (hn : ∀ y ∈ ys, y.1.1 ≠ plan.length) : solB x n s plan = false := by
  cases hr : runTo x n s plan plan.length with
  | none => simp [solB, hr]
  | some t =>
    have hm : (plan.length, t) ∈ ys.map Subtype.val := by rw [h]; exact seqN_has hr _ _ (by omega) (by omega)
    rw [List.mem_map] at hm
    obtain ⟨y, hy, e⟩ := hm
    exact absurd (by rw [e]) (hn y hy)
theorem pre_run {x : Tsk} {n : Nat} {s plan : List Int} {q : List StA} {y : StA} (h : (q ++ [y]).map Subtype.val <+: seqL x n s plan) : runTo x n s plan y.1.1 = some y.1.2 :=
  (seqN_mem _ _ _ (h.subset (by simp))).1

theorem post_bool_fault {fn : Func} {R : Ending → World → Prop} {tmps : Array Value} {W : World} {s t : Tmp} {g g2 : Nat} {x y z : Value} (hres : fn.results = #[.cell t 4, .cell s 27]) (hz : tmps.getD t undef = .pointer (some ⟨g2, 0, none⟩)) (ht : tmps.getD s undef = .pointer (some ⟨g, 0, none⟩)) (hO : One W g2 z) (hT : Two W g x y)
    (hR : R (.returned (.tuple #[z, .agg #[x, y]])) W) : bodyPost Tryd.prog fn R .ret { tmps := tmps, defers := [] } W := by
  refine bodyPost_ret (v := .tuple #[z, .agg #[x, y]]) ?_ rfl hR
  simp only [results, hres]
  rw [Array.getD_eq_getD_getElem?] at ht hz
  simp [go_sem, hz, ht, hT.fst, hT.snd, hO.fst]

end Go.Proofs.YtenmegkokclolaaDoor
