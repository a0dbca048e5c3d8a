/- Tasks in memory: operators, the slice of them, a task by value. -/
import Derived.Test.YtenmegkokclolaaDoorKset
namespace Go.Proofs.YtenmegkokclolaaDoor
open Go.RowKit
set_option linter.unusedSimpArgs false
set_option linter.unusedVariables false
set_option maxRecDepth 100000

structure Opr where
  pre : List Int
  add : List Int
  del : List Int
  cost : Int
instance : Inhabited Opr := ⟨⟨[], [], [], 0⟩⟩
def opr (os : List Opr) (k : Nat) : Opr := os.getD k ⟨[], [], [], 0⟩
/-- A task, with the places of its lists. -/
structure Tsk where
  n : Int
  init : List Int
  goal : List Int
  ops : List Opr
  ai : Option Addr
  ag : Option Addr
  ao : Option Addr
  ci : Nat
  cg : Nat
  co : Nat

/-- A list of numbers stands in a slice. -/
structure Lst (w : World) (B : Nat) (a : Option Addr) (c : Nat) (xs : List Int) : Prop where
  nums : Nums w B a xs
  le : xs.length ≤ c
  max : c ≤ maxLen
theorem Lst.len {w : World} {B : Nat} {a : Option Addr} {c : Nat} {xs : List Int} (h : Lst w B a c xs) : xs.length ≤ maxLen := Nat.le_trans h.le h.max
theorem Lst.to {w w' : World} {B B' : Nat} {a : Option Addr} {c : Nat} {xs : List Int} (h : Lst w B a c xs) (hb : Below B w w') (hB : B ≤ B') : Lst w' B' a c xs := ⟨h.nums.to hb hB, h.le, h.max⟩
theorem nums_nil (w : World) (B : Nat) (a : Option Addr) : Nums w B a [] := fun h => by simp at h
theorem lst_nil (w : World) (B : Nat) : Lst w B none 0 [] := ⟨nums_nil _ _ _, by simp, by simp [maxLen]⟩

/-- The lists of an operator. -/
structure OpV (w : World) (B : Nat) (o : Opr) (a1 a2 a3 : Option Addr) (c1 c2 c3 : Nat) : Prop where
  pre : Lst w B a1 c1 o.pre
  add : Lst w B a2 c2 o.add
  del : Lst w B a3 c3 o.del
theorem OpV.to {w w' : World} {B B' : Nat} {o : Opr} {a1 a2 a3 : Option Addr} {c1 c2 c3 : Nat} (h : OpV w B o a1 a2 a3 c1 c2 c3) (hb : Below B w w') (hB : B ≤ B') : OpV w' B' o a1 a2 a3 c1 c2 c3 :=
  ⟨h.pre.to hb hB, h.add.to hb hB, h.del.to hb hB⟩
/-- The four cells of an operator. -/
structure OpC (w : World) (b p : Nat) (o : Opr) (a1 a2 a3 : Option Addr) (c1 c2 c3 : Nat) : Prop where
  c0 : w.cell? ⟨b, p, none⟩ = some (.slice a1 o.pre.length c1)
  c1 : w.cell? ⟨b, p + 1, none⟩ = some (.slice a2 o.add.length c2)
  c2 : w.cell? ⟨b, p + 2, none⟩ = some (.slice a3 o.del.length c3)
  c3 : w.cell? ⟨b, p + 3, none⟩ = some (.int .i64 o.cost)
theorem OpC.to {w w' : World} {B b p : Nat} {o : Opr} {a1 a2 a3 : Option Addr} {c1 c2 c3 : Nat} (h : OpC w b p o a1 a2 a3 c1 c2 c3) (hb : Below B w w') (hB : b < B) : OpC w' b p o a1 a2 a3 c1 c2 c3 :=
  ⟨(hb.cell (p := ⟨b, p, none⟩) hB).trans h.c0, (hb.cell (p := ⟨b, p + 1, none⟩) hB).trans h.c1, (hb.cell (p := ⟨b, p + 2, none⟩) hB).trans h.c2, (hb.cell (p := ⟨b, p + 3, none⟩) hB).trans h.c3⟩
/-- The slice at a holds the operators os, below block B. -/
def Oprs (w : World) (B : Nat) (a : Option Addr) (os : List Opr) : Prop :=
  0 < os.length → ∃ b p, a = some ⟨b, p, none⟩ ∧ b < B ∧ ∀ k, k < os.length → ∃ a1 a2 a3 c1 c2 c3, OpC w b (p + k * 4) (opr os k) a1 a2 a3 c1 c2 c3 ∧ OpV w B (opr os k) a1 a2 a3 c1 c2 c3
theorem Oprs.to {w w' : World} {B B' : Nat} {a : Option Addr} {os : List Opr} (h : Oprs w B a os) (hb : Below B w w') (hB : B ≤ B') : Oprs w' B' a os := by
  intro h0
  obtain ⟨b, p, ha, hlt, hc⟩ := h h0
  refine ⟨b, p, ha, by omega, fun k hk => ?_⟩
  obtain ⟨a1, a2, a3, c1, c2, c3, q1, q2⟩ := hc k hk
  exact ⟨a1, a2, a3, c1, c2, c3, q1.to hb hlt, q2.to hb hB⟩
theorem Oprs.at_ {w : World} {B : Nat} {a : Option Addr} {os : List Opr} (h : Oprs w B a os) {k : Nat} (hk : k < os.length) : ∃ b p a1 a2 a3 c1 c2 c3, a = some ⟨b, p, none⟩ ∧ b < B ∧ OpC w b (p + k * 4) (opr os k) a1 a2 a3 c1 c2 c3 ∧ OpV w B (opr os k) a1 a2 a3 c1 c2 c3 := by
  obtain ⟨b, p, ha, hlt, hc⟩ := h (by omega)
  obtain ⟨a1, a2, a3, c1, c2, c3, q1, q2⟩ := hc k hk
  exact ⟨b, p, a1, a2, a3, c1, c2, c3, ha, hlt, q1, q2⟩

/-- A task in memory. -/
structure TskIn (w : World) (B : Nat) (x : Tsk) : Prop where
  init : Lst w B x.ai x.ci x.init
  goal : Lst w B x.ag x.cg x.goal
  ops : Oprs w B x.ao x.ops
  le : x.ops.length ≤ x.co
  max : x.co ≤ maxLen
theorem TskIn.to {w w' : World} {B B' : Nat} {x : Tsk} (h : TskIn w B x) (hb : Below B w w') (hB : B ≤ B') : TskIn w' B' x :=
  ⟨h.init.to hb hB, h.goal.to hb hB, h.ops.to hb hB, h.le, h.max⟩
theorem TskIn.len {w : World} {B : Nat} {x : Tsk} (h : TskIn w B x) : x.ops.length ≤ maxLen := Nat.le_trans h.le h.max

/-- Block g is the box of a task. -/
structure TBox (w : World) (g : Nat) (x : Tsk) : Prop where
  lt : g < w.heap.size
  c0 : w.cell? ⟨g, 0, none⟩ = some (.int .i64 x.n)
  c1 : w.cell? ⟨g, 1, none⟩ = some (.slice x.ai x.init.length x.ci)
  c2 : w.cell? ⟨g, 2, none⟩ = some (.slice x.ag x.goal.length x.cg)
  c3 : w.cell? ⟨g, 3, none⟩ = some (.slice x.ao x.ops.length x.co)
theorem TBox.to {w w' : World} {B g : Nat} {x : Tsk} (h : TBox w g x) (hb : Below B w w') (hB : g < B) : TBox w' g x :=
  ⟨Nat.lt_of_lt_of_le h.lt hb.size, (hb.cell (p := ⟨g, 0, none⟩) hB).trans h.c0, (hb.cell (p := ⟨g, 1, none⟩) hB).trans h.c1, (hb.cell (p := ⟨g, 2, none⟩) hB).trans h.c2, (hb.cell (p := ⟨g, 3, none⟩) hB).trans h.c3⟩
theorem TBox.far {w : World} {g : Nat} {x : Tsk} (h : TBox w g x) {p : Addr} (hp : p.block ≠ g) (u : Value) : TBox (w.setCell p u) g x := by
  refine ⟨by simpa using h.lt, ?_, ?_, ?_, ?_⟩
  · rw [World.cell?_setCell_other _ _ _ _ (by rintro rfl; exact hp rfl)]; exact h.c0
  · rw [World.cell?_setCell_other _ _ _ _ (by rintro rfl; exact hp rfl)]; exact h.c1
  · rw [World.cell?_setCell_other _ _ _ _ (by rintro rfl; exact hp rfl)]; exact h.c2
  · rw [World.cell?_setCell_other _ _ _ _ (by rintro rfl; exact hp rfl)]; exact h.c3
theorem tbox_new (w : World) (x : Tsk) (t : TypeId) : TBox (w.alloc (.cells #[.int .i64 x.n, .slice x.ai x.init.length x.ci, .slice x.ag x.goal.length x.cg, .slice x.ao x.ops.length x.co] t)) w.heap.size x := ⟨by simp, by simp, by simp, by simp, by simp⟩
end Go.Proofs.YtenmegkokclolaaDoor
