/- TaskFault of the reference. -/
import Derived.Test.YthlafcmabeiagaaDoorKva
namespace Go.Proofs.YthlafcmabeiagaaDoor
open Go.RowKit
set_option linter.unusedSimpArgs false
set_option linter.unusedVariables false
set_option maxRecDepth 100000

/-- A call that has boxed a task at g and a fault behind it. -/
structure Fr1 (w W : World) (x : Tsk) (u v : Int) : Prop where
  below : Below w.heap.size w W
  box : TBox W w.heap.size x
  two : Two W (w.heap.size + 1) (.int .i64 u) (.int .i64 v)
theorem Fr1.to {w W W' : World} {x : Tsk} {u v : Int} (h : Fr1 w W x u v) (hb : Below W.heap.size W W') : Fr1 w W' x u v :=
  ⟨h.below.trans (hb.mono h.below.size), h.box.to hb h.box.lt, h.two.to hb h.two.lt⟩
theorem Fr1.alloc {w W : World} {x : Tsk} {u v : Int} (h : Fr1 w W x u v) (o : Obj) : Fr1 w (W.alloc o) x u v := h.to ((Below.refl _ _).alloc (Nat.le_refl _) _)
theorem fr1_new (w : World) (x : Tsk) (t t' : TypeId) : Fr1 w ((w.alloc (.cells #[.int .i64 x.n, .slice x.ai x.init.length x.ci, .slice x.ag x.goal.length x.cg, .slice x.ao x.ops.length x.co] t)).alloc (.cells #[.int .i64 0, .int .i64 0] t')) x 0 0 :=
  ⟨by go_grown, ⟨by simp; omega, by simp, by simp, by simp, by simp⟩, ⟨by simp, by simp, by simp, by simp, by simp⟩⟩

/-- Block g is the box of an operator. -/
structure OBox (w : World) (g : Nat) (o : Opr) (a1 a2 a3 : Option Addr) (c1 c2 c3 : Nat) : Prop where
  lt : g < w.heap.size
  c0 : w.cell? ⟨g, 0, none⟩ = some (.slice a1 o.pre.length c1)
  c1 : w.cell? ⟨g, 1, none⟩ = some (.slice a2 o.add.length c2)
  c2 : w.cell? ⟨g, 2, none⟩ = some (.slice a3 o.del.length c3)
  c3 : w.cell? ⟨g, 3, none⟩ = some (.int .i64 o.cost)
theorem OBox.to {w w' : World} {g : Nat} {o : Opr} {a1 a2 a3 : Option Addr} {c1 c2 c3 : Nat} (h : OBox w g o a1 a2 a3 c1 c2 c3) (hb : Below w.heap.size w w') : OBox w' g o a1 a2 a3 c1 c2 c3 :=
  ⟨Nat.lt_of_lt_of_le h.lt hb.size, (hb.cell (p := ⟨g, 0, none⟩) h.lt).trans h.c0, (hb.cell (p := ⟨g, 1, none⟩) h.lt).trans h.c1, (hb.cell (p := ⟨g, 2, none⟩) h.lt).trans h.c2, (hb.cell (p := ⟨g, 3, none⟩) h.lt).trans h.c3⟩
theorem obox_new (w : World) (o : Opr) (a1 a2 a3 : Option Addr) (c1 c2 c3 : Nat) (t : TypeId) : OBox (w.alloc (.cells #[.slice a1 o.pre.length c1, .slice a2 o.add.length c2, .slice a3 o.del.length c3, .int .i64 o.cost] t)) w.heap.size o a1 a2 a3 c1 c2 c3 := ⟨by simp, by simp, by simp, by simp, by simp⟩
structure Fr2 (w W : World) (x : Tsk) (u v : Int) (g : Nat) (o : Opr) (a1 a2 a3 : Option Addr) (c1 c2 c3 : Nat) : Prop where
  fr : Fr1 w W x u v
  box : OBox W g o a1 a2 a3 c1 c2 c3
  vals : OpV W W.heap.size o a1 a2 a3 c1 c2 c3
theorem Fr2.to {w W W' : World} {x : Tsk} {u v : Int} {g : Nat} {o : Opr} {a1 a2 a3 : Option Addr} {c1 c2 c3 : Nat} (h : Fr2 w W x u v g o a1 a2 a3 c1 c2 c3) (hb : Below W.heap.size W W') : Fr2 w W' x u v g o a1 a2 a3 c1 c2 c3 :=
  ⟨h.fr.to hb, h.box.to hb, h.vals.to hb hb.size⟩
theorem at_fr2 {w W : World} {x : Tsk} {u v : Int} {g : Nat} {o : Opr} {a1 a2 a3 : Option Addr} {c1 c2 c3 : Nat} (hF : Fr2 w W x u v g o a1 a2 a3 c1 c2 c3) (y z : Int) :
    Calls Tryd.prog 19 #[.int .i64 y, .int .i64 z] W fun e w' => e = .returned (.agg #[.int .i64 y, .int .i64 z]) ∧ Fr2 w w' x u v g o a1 a2 a3 c1 c2 c3 :=
  (at_any y z W).mono fun _ _ ⟨he, hb⟩ => ⟨he, hF.to hb⟩

end Go.Proofs.YthlafcmabeiagaaDoor
