/- Strips: its walk. -/
import Derived.Test.YtenmegkokclolaaDoorMzs
import Derived.Lib.SmallJoins
namespace Go.Proofs.YtenmegkokclolaaDoor
open Go.RowKit
set_option linter.unusedSimpArgs false
set_option linter.unusedVariables false
set_option maxRecDepth 100000

def msF (x : MT) : Int × Int := if (mfF x).1 ≠ 0 then mfF x else if 24 < smN x.sizes x.sizes.length then (10, -8) else (0, 0)
def inN (S init : List Int) (k : Nat) : List Int := (List.range k).map (fun v => smN S v + ix init v)
theorem inN_len (S init : List Int) (k : Nat) : (inN S init k).length = k := by simp [inN]
theorem inN_succ (S init : List Int) (k : Nat) : inN S init (k + 1) = inN S init k ++ [smN S k + ix init k] := by unfold inN; rw [List.range_succ, List.map_append]; rfl
def opS (S : List Int) (o : MOp) : Opr := ⟨gvL S o.pre, gvL S o.post, otL S o.post, o.cost⟩
def opsN (S : List Int) (os : List MOp) (k : Nat) : List Opr := (os.take k).map (opS S)
theorem opsN_len {S : List Int} {os : List MOp} {k : Nat} (h : k ≤ os.length) : (opsN S os k).length = k := by simp [opsN]; omega
theorem opsN_succ {S : List Int} {os : List MOp} {k : Nat} (h : k < os.length) : opsN S os (k + 1) = opsN S os k ++ [opS S (mop os k)] := by
  unfold opsN; rw [List.take_add_one, List.map_append]; simp [mop, List.getD, h]
theorem opsN_all (S : List Int) (os : List MOp) : opsN S os os.length = os.map (opS S) := by unfold opsN; rw [List.take_length]
def tkZ : Tsk := ⟨0, [], [], [], none, none, none, 0, 0, 0⟩
/-- What Strips leaves. -/
def StrP (w : World) (x : MT) (e : Ending) (w' : World) : Prop := ∃ y : Tsk, e = .returned (.tuple #[.agg #[.int .i64 y.n, .slice y.ai y.init.length y.ci, .slice y.ag y.goal.length y.cg, .slice y.ao y.ops.length y.co], faultV (msF x)]) ∧ TskIn w' w'.heap.size y ∧ Below w.heap.size w w' ∧
  ((msF x).1 = 0 → y.n = smN x.sizes x.sizes.length ∧ y.init = inN x.sizes x.init x.sizes.length ∧ y.goal = gvL x.sizes x.goal ∧ y.ops = x.ops.map (opS x.sizes)) ∧ ((msF x).1 ≠ 0 → y = tkZ)
theorem tskIn_zero (w : World) (B : Nat) : TskIn w B tkZ := ⟨lst_nil _ _, lst_nil _ _, fun h => by simp [tkZ] at h, by simp [tkZ], by simp [tkZ, maxLen]⟩

/-- A box with four cells that may be written. -/
structure Quad (W : World) (g : Nat) (a b c d : Value) : Prop where
  lt : g < W.heap.size
  c0 : W.cell? ⟨g, 0, none⟩ = some a
  c1 : W.cell? ⟨g, 1, none⟩ = some b
  c2 : W.cell? ⟨g, 2, none⟩ = some c
  c3 : W.cell? ⟨g, 3, none⟩ = some d
  f0 : W.frozen? ⟨g, 0, none⟩ = false
  f1 : W.frozen? ⟨g, 1, none⟩ = false
  f2 : W.frozen? ⟨g, 2, none⟩ = false
  f3 : W.frozen? ⟨g, 3, none⟩ = false
theorem Quad.to {W W' : World} {g B : Nat} {a b c d : Value} (h : Quad W g a b c d) (hb : Below B W W') (hB : g < B) : Quad W' g a b c d :=
  ⟨Nat.lt_of_lt_of_le h.lt hb.size, (hb.cell (p := ⟨g, 0, none⟩) hB).trans h.c0, (hb.cell (p := ⟨g, 1, none⟩) hB).trans h.c1, (hb.cell (p := ⟨g, 2, none⟩) hB).trans h.c2, (hb.cell (p := ⟨g, 3, none⟩) hB).trans h.c3, (hb.frozen (p := ⟨g, 0, none⟩) hB).trans h.f0, (hb.frozen (p := ⟨g, 1, none⟩) hB).trans h.f1, (hb.frozen (p := ⟨g, 2, none⟩) hB).trans h.f2, (hb.frozen (p := ⟨g, 3, none⟩) hB).trans h.f3⟩
theorem quad_new (W : World) (a b c d : Value) (t : TypeId) : Quad (W.alloc (.cells #[a, b, c, d] t)) W.heap.size a b c d := ⟨by simp, by simp, by simp, by simp, by simp, by simp, by simp, by simp, by simp⟩
theorem Quad.far {W : World} {g : Nat} {a b c d : Value} (h : Quad W g a b c d) {p : Addr} (hp : p.block ≠ g) (u : Value) : Quad (W.setCell p u) g a b c d := by
  refine ⟨by simpa using h.lt, ?_, ?_, ?_, ?_, by rw [World.frozen?_setCell]; exact h.f0, by rw [World.frozen?_setCell]; exact h.f1, by rw [World.frozen?_setCell]; exact h.f2, by rw [World.frozen?_setCell]; exact h.f3⟩
  · rw [World.cell?_setCell_other _ _ _ _ (by rintro rfl; exact hp rfl)]; exact h.c0
  · rw [World.cell?_setCell_other _ _ _ _ (by rintro rfl; exact hp rfl)]; exact h.c1
  · rw [World.cell?_setCell_other _ _ _ _ (by rintro rfl; exact hp rfl)]; exact h.c2
  · rw [World.cell?_setCell_other _ _ _ _ (by rintro rfl; exact hp rfl)]; exact h.c3
theorem Quad.s0 {W : World} {g : Nat} {a b c d : Value} (h : Quad W g a b c d) (u : Value) : Quad (W.setCell ⟨g, 0, none⟩ u) g u b c d := by
  refine ⟨by simpa using h.lt, World.cell?_setCell_same' _ _ _ (by rw [h.c0]; rfl), ?_, ?_, ?_, by rw [World.frozen?_setCell]; exact h.f0, by rw [World.frozen?_setCell]; exact h.f1, by rw [World.frozen?_setCell]; exact h.f2, by rw [World.frozen?_setCell]; exact h.f3⟩
  · rw [World.cell?_setCell_other _ _ _ _ (by simp)]; exact h.c1
  · rw [World.cell?_setCell_other _ _ _ _ (by simp)]; exact h.c2
  · rw [World.cell?_setCell_other _ _ _ _ (by simp)]; exact h.c3
theorem Quad.s1 {W : World} {g : Nat} {a b c d : Value} (h : Quad W g a b c d) (u : Value) : Quad (W.setCell ⟨g, 1, none⟩ u) g a u c d := by
  refine ⟨by simpa using h.lt, ?_, World.cell?_setCell_same' _ _ _ (by rw [h.c1]; rfl), ?_, ?_, by rw [World.frozen?_setCell]; exact h.f0, by rw [World.frozen?_setCell]; exact h.f1, by rw [World.frozen?_setCell]; exact h.f2, by rw [World.frozen?_setCell]; exact h.f3⟩
  · rw [World.cell?_setCell_other _ _ _ _ (by simp)]; exact h.c0
  · rw [World.cell?_setCell_other _ _ _ _ (by simp)]; exact h.c2
  · rw [World.cell?_setCell_other _ _ _ _ (by simp)]; exact h.c3
theorem Quad.s2 {W : World} {g : Nat} {a b c d : Value} (h : Quad W g a b c d) (u : Value) : Quad (W.setCell ⟨g, 2, none⟩ u) g a b u d := by
  refine ⟨by simpa using h.lt, ?_, ?_, World.cell?_setCell_same' _ _ _ (by rw [h.c2]; rfl), ?_, by rw [World.frozen?_setCell]; exact h.f0, by rw [World.frozen?_setCell]; exact h.f1, by rw [World.frozen?_setCell]; exact h.f2, by rw [World.frozen?_setCell]; exact h.f3⟩
  · rw [World.cell?_setCell_other _ _ _ _ (by simp)]; exact h.c0
  · rw [World.cell?_setCell_other _ _ _ _ (by simp)]; exact h.c1
  · rw [World.cell?_setCell_other _ _ _ _ (by simp)]; exact h.c3
theorem Quad.s3 {W : World} {g : Nat} {a b c d : Value} (h : Quad W g a b c d) (u : Value) : Quad (W.setCell ⟨g, 3, none⟩ u) g a b c u := by
  refine ⟨by simpa using h.lt, ?_, ?_, ?_, World.cell?_setCell_same' _ _ _ (by rw [h.c3]; rfl), by rw [World.frozen?_setCell]; exact h.f0, by rw [World.frozen?_setCell]; exact h.f1, by rw [World.frozen?_setCell]; exact h.f2, by rw [World.frozen?_setCell]; exact h.f3⟩
  · rw [World.cell?_setCell_other _ _ _ _ (by simp)]; exact h.c0
  · rw [World.cell?_setCell_other _ _ _ _ (by simp)]; exact h.c1
  · rw [World.cell?_setCell_other _ _ _ _ (by simp)]; exact h.c2
theorem post_task_fault {fn : Func} {R : Ending → World → Prop} {tmps : Array Value} {W : World} {s t : Tmp} {g g2 : Nat} {a b c d x y : Value} (hres : fn.results = #[.cell t 25, .cell s 27]) (hz : tmps.getD t undef = .pointer (some ⟨g2, 0, none⟩)) (ht : tmps.getD s undef = .pointer (some ⟨g, 0, none⟩)) (hQ : Quad W g2 a b c d) (hT : Two W g x y)
    (hR : R (.returned (.tuple #[.agg #[a, b, c, d], .agg #[x, y]])) W) : bodyPost Tryd.prog fn R .ret { tmps := tmps, defers := [] } W := by
  refine bodyPost_ret (v := .tuple #[.agg #[a, b, c, d], .agg #[x, y]]) ?_ rfl hR
  simp only [results, hres]
  rw [Array.getD_eq_getD_getElem?] at ht hz
  simp [go_sem, hz, ht, hT.fst, hT.snd, hQ.c0, hQ.c1, hQ.c2, hQ.c3]

/-- What a call of Strips has laid first. -/
structure QS (w W : World) (x : MT) : Prop where
  below : Below w.heap.size w W
  box : MBox W w.heap.size x
  res : Quad W (w.heap.size + 1) (.int .i64 0) (.slice none 0 0) (.slice none 0 0) (.slice none 0 0)
  two : Two W (w.heap.size + 2) (.int .i64 0) (.int .i64 0)
theorem QS.toB {w W W' : World} {x : MT} {base : Nat} (h : QS w W x) (hb : Below base W W') (hB : w.heap.size + 3 ≤ base) : QS w W' x :=
  ⟨h.below.trans (hb.mono (by omega)), h.box.to hb (by omega), h.res.to hb (by omega), h.two.to hb (by omega)⟩
theorem QS.to {w W W' : World} {x : MT} (h : QS w W x) (hb : Below W.heap.size W W') : QS w W' x := h.toB hb h.two.lt
theorem qs_new (w : World) (x : MT) (t t' t2 : TypeId) : QS w (((w.alloc (.cells #[.slice x.az x.sizes.length x.cz, .slice x.ai x.init.length x.ci, .slice x.ag x.goal.length x.cg, .slice x.ao x.ops.length x.co] t)).alloc (.cells #[.int .i64 0, .slice none 0 0, .slice none 0 0, .slice none 0 0] t')).alloc (.cells #[.int .i64 0, .int .i64 0] t2)) x := by
  have h1 := mbox_new w x t
  have hb1 := al_b (w.alloc (.cells #[.slice x.az x.sizes.length x.cz, .slice x.ai x.init.length x.ci, .slice x.ag x.goal.length x.cg, .slice x.ao x.ops.length x.co] t)) (.cells #[.int .i64 0, .slice none 0 0, .slice none 0 0, .slice none 0 0] t')
  have hb2 := al_b ((w.alloc (.cells #[.slice x.az x.sizes.length x.cz, .slice x.ai x.init.length x.ci, .slice x.ag x.goal.length x.cg, .slice x.ao x.ops.length x.co] t)).alloc (.cells #[.int .i64 0, .slice none 0 0, .slice none 0 0, .slice none 0 0] t')) (.cells #[.int .i64 0, .int .i64 0] t2)
  have q := quad_new (w.alloc (.cells #[.slice x.az x.sizes.length x.cz, .slice x.ai x.init.length x.ci, .slice x.ag x.goal.length x.cg, .slice x.ao x.ops.length x.co] t)) (.int .i64 0) (.slice none 0 0) (.slice none 0 0) (.slice none 0 0) t'
  have z := two_new ((w.alloc (.cells #[.slice x.az x.sizes.length x.cz, .slice x.ai x.init.length x.ci, .slice x.ag x.goal.length x.cg, .slice x.ao x.ops.length x.co] t)).alloc (.cells #[.int .i64 0, .slice none 0 0, .slice none 0 0, .slice none 0 0] t')) (.int .i64 0) (.int .i64 0) t2
  refine ⟨by go_grown, (h1.to hb1 (by simp)).to hb2 (by simp; omega), ?_, ?_⟩
  · have := q.to hb2 (by simp)
    simpa using this
  · simpa using z
/-- The results are written. -/
theorem QS.put {w W : World} {x : MT} (h : QS w W x) (a b c d : Value) (u v : Value) :
    let W' := (((((W.setCell ⟨w.heap.size + 1, 0, none⟩ a).setCell ⟨w.heap.size + 1, 1, none⟩ b).setCell ⟨w.heap.size + 1, 2, none⟩ c).setCell ⟨w.heap.size + 1, 3, none⟩ d).setCell ⟨w.heap.size + 2, 0, none⟩ u).setCell ⟨w.heap.size + 2, 1, none⟩ v
    Quad W' (w.heap.size + 1) a b c d ∧ Two W' (w.heap.size + 2) u v ∧ Below w.heap.size w W' := by
  refine ⟨((((((h.res.s0 a).s1 b).s2 c).s3 d).far (by simp) u).far (by simp) v), ((((h.two.far (by simp) a).far (by simp) b).far (by simp) c).far (by simp) d).set u v, ?_⟩
  exact (((((h.below.setCell (by simp) _).setCell (by simp) _).setCell (by simp) _).setCell (by simp) _).setCell (by simp) _).setCell (by simp) _
theorem QS.put2 {w W : World} {x : MT} (h : QS w W x) (a b c d : Value) (u v : Value) :
    let W' := (((((W.setCell ⟨w.heap.size + 2, 0, none⟩ u).setCell ⟨w.heap.size + 2, 1, none⟩ v).setCell ⟨w.heap.size + 1, 0, none⟩ a).setCell ⟨w.heap.size + 1, 1, none⟩ b).setCell ⟨w.heap.size + 1, 2, none⟩ c).setCell ⟨w.heap.size + 1, 3, none⟩ d
    Quad W' (w.heap.size + 1) a b c d ∧ Two W' (w.heap.size + 2) u v ∧ Below w.heap.size w W' := by
  refine ⟨((((((h.res.far (by simp) u).far (by simp) v).s0 a).s1 b).s2 c).s3 d), ((((h.two.set u v).far (by simp) a).far (by simp) b).far (by simp) c).far (by simp) d, ?_⟩
  exact (((((h.below.setCell (by simp) _).setCell (by simp) _).setCell (by simp) _).setCell (by simp) _).setCell (by simp) _).setCell (by simp) _
end Go.Proofs.YtenmegkokclolaaDoor
