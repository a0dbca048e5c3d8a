/- What the functions of package numeric answer (as conditions), and the closed example of their laws. -/
import Derived.Test.YtiafplmaigpmeaaNbo
namespace Go.Proofs.Ytiafplmaigpmeaa
open Go.RowKit
set_option linter.unusedSimpArgs false
set_option linter.unusedVariables false
set_option maxRecDepth 100000

def napF (x : NT) (v : List Int) (op : Int) : Int × Int :=
  if (nfF x).1 ≠ 0 then nfF x else if okL 1000000 x.init.length v = false then (5, -4) else if inB op 0 ((x.ops.length : Int) - 1) = false then (3, -6)
  else if (naf (nop x.ops op.toNat) v).2 ≠ 0 then ((naf (nop x.ops op.toNat) v).2, op) else (0, 0)
def napL (x : NT) (v : List Int) (op : Int) : List Int := if (napF x v op).1 = 0 then (naf (nop x.ops op.toNat) v).1 else []
def nspF (x : NT) (plan : List Int) : Int × Int := if (nfF x).1 ≠ 0 then nfF x else spF x.ops.length plan
def nspB (x : NT) (plan : List Int) : Bool := decide ((nspF x plan).1 = 0) && nsol x plan
def nbF (x : NT) (n : Int) : Int × Int := if (nfF x).1 ≠ 0 then nfF x else if inB n 0 60 then (0, 0) else (3, -5)
def nbL (x : NT) (n : Int) : List (Int × Int) := if (nbF x n).1 = 0 then bdn x n.toNat else []
def NvC : Prop := ∀ (x : NT) (w : World), NTIn w w.heap.size x → Calls Try.prog 10 #[.agg #[.slice x.ai x.init.length x.ci, .slice x.ag x.goal.length x.cg, .slice x.ao x.ops.length x.co]] w fun e w' => e = .returned (faultV (nfF x)) ∧ Below w.heap.size w w'
/-- A list in a row of its own, and a fault. -/
def LsF (w : World) (f : Int × Int) (l : List Int) (e : Ending) (w' : World) : Prop := ∃ v, e = .returned (.tuple #[v, faultV f]) ∧ w'.ownsRow w.heap.size 3 1 v l.length (l.map (Value.int .i64)) ∧ Below w.heap.size w w'
def NaC : Prop := ∀ (x : NT) (a : Option Addr) (c : Nat) (v : List Int) (op : Int) (w : World), NTIn w w.heap.size x → Lst w w.heap.size a c v → (a = none → c = 0) →
  Calls Try.prog 18 #[.agg #[.slice x.ai x.init.length x.ci, .slice x.ag x.goal.length x.cg, .slice x.ao x.ops.length x.co], .slice a v.length c, .int .i64 op] w (LsF w (napF x v op) (napL x v op))
def NsC : Prop := ∀ (x : NT) (a : Option Addr) (c : Nat) (plan : List Int) (w : World), NTIn w w.heap.size x → Lst w w.heap.size a c plan →
  Calls Try.prog 12 #[.agg #[.slice x.ai x.init.length x.ci, .slice x.ag x.goal.length x.cg, .slice x.ao x.ops.length x.co], .slice a plan.length c] w fun e w' => e = .returned (.tuple #[.bool (nspB x plan), faultV (nspF x plan)]) ∧ Below w.heap.size w w'
def BdF (w : World) (f : Int × Int) (b : List (Int × Int)) (e : Ending) (w' : World) : Prop := ∃ a c, e = .returned (.tuple #[.slice a b.length c, faultV f]) ∧ PrL w' w'.heap.size a c b ∧ Below w.heap.size w w'
def NbC : Prop := ∀ (x : NT) (n : Int) (w : World), NTIn w w.heap.size x → Calls Try.prog 21 #[.agg #[.slice x.ai x.init.length x.ci, .slice x.ag x.goal.length x.cg, .slice x.ao x.ops.length x.co], .int .i64 n] w (BdF w (nbF x n) (nbL x n))

/-- The task of the closed example. -/
structure IsCt (x : NT) : Prop where
  init : x.init = [3]
  goal : x.goal = [⟨[1], 1, 7⟩]
  ops : x.ops = [⟨[], [⟨0, [2], 1⟩], 0⟩]
section
variable {x : NT}
theorem IsCt.eq (h : IsCt x) : ∃ ai ag ao ci cg co, x = ⟨[3], [⟨[1], 1, 7⟩], [⟨[], [⟨0, [2], 1⟩], 0⟩], ai, ag, ao, ci, cg, co⟩ := by
  obtain ⟨init, goal, ops, ai, ag, ao, ci, cg, co⟩ := x
  obtain ⟨h1, h2, h3⟩ := h
  simp only at h1 h2 h3
  subst h1 h2 h3
  exact ⟨ai, ag, ao, ci, cg, co, rfl⟩
theorem ct1 (h : IsCt x) : napF x [3] 0 = (0, 0) ∧ napL x [3] 0 = [7] := by
  obtain ⟨ai, ag, ao, ci, cg, co, rfl⟩ := h.eq
  exact ⟨by kernel_rfl, by kernel_rfl⟩
theorem ct2 (h : IsCt x) : nspF x [0] = (0, 0) ∧ nspB x [0] = true := by
  obtain ⟨ai, ag, ao, ci, cg, co, rfl⟩ := h.eq
  exact ⟨by kernel_rfl, by kernel_rfl⟩
theorem ct3 (h : IsCt x) : nspF x [] = (0, 0) ∧ nspB x [] = false := by
  obtain ⟨ai, ag, ao, ci, cg, co, rfl⟩ := h.eq
  exact ⟨by kernel_rfl, by kernel_rfl⟩
theorem ct4 (h : IsCt x) : nbF x 1 = (0, 0) ∧ nbL x 1 = [(3, 7)] := by
  obtain ⟨ai, ag, ao, ci, cg, co, rfl⟩ := h.eq
  exact ⟨by kernel_rfl, by kernel_rfl⟩
end
def zeroNT : NT := ⟨[], [], [], none, none, none, 0, 0, 0⟩
theorem zero_in (w : World) (B : Nat) : NTIn w B zeroNT := ⟨lst_nil _ _, ⟨fun h => by simp [zeroNT] at h, by simp [zeroNT], by simp [zeroNT, maxLen]⟩, ⟨fun h => by simp [zeroNT] at h, by simp [zeroNT], by simp [zeroNT, maxLen]⟩⟩
theorem zero_f : nfF zeroNT = (2, -1) := rfl
def CtPost (w : World) (e : Ending) (w' : World) : Prop := ∃ x : NT, e = .returned (.agg #[.slice x.ai x.init.length x.ci, .slice x.ag x.goal.length x.cg, .slice x.ao x.ops.length x.co]) ∧ IsCt x ∧ NTIn w' w'.heap.size x ∧ Below w.heap.size w w'
theorem post_tri {fn : Func} {R : Ending → World → Prop} {tmps : Array Value} {W : World} {s : Tmp} {g : Nat} {x y z : Value} (hres : fn.results = #[.cell s 26]) (ht : tmps.getD s undef = .pointer (some ⟨g, 0, none⟩)) (hT : Tri W g x y z) (hR : R (.returned (.agg #[x, y, z])) W) :
    bodyPost Try.prog fn R .ret { tmps := tmps, defers := [] } W := by
  refine bodyPost_ret (v := .agg #[x, y, z]) ?_ rfl hR
  simp only [results, hres]
  rw [Array.getD_eq_getD_getElem?] at ht
  simp [go_sem, ht, hT.c0, hT.c1, hT.c2]
theorem Tri.alloc {w : World} {g : Nat} {u v y : Value} (h : Tri w g u v y) (o : Obj) : Tri (w.alloc o) g u v y := h.to ((Below.refl _ _).alloc (Nat.le_refl _) _)
def ctx (w : World) : NT := ⟨[3], [⟨[1], 1, 7⟩], [⟨[], [⟨0, [2], 1⟩], 0⟩], some ⟨w.heap.size + 1, 0, none⟩, some ⟨w.heap.size + 1 + 1 + 1, 0, none⟩, some ⟨w.heap.size + 1 + 1 + 1 + 1 + 1 + 1, 0, none⟩, 1, 1, 1⟩
theorem ct_in (w : World) : NTIn (((((((w.alloc (.cells #[.slice (some ⟨w.heap.size + 1, 0, none⟩) 1 1, .slice (some ⟨w.heap.size + 1 + 1 + 1, 0, none⟩) 1 1, .slice (some ⟨w.heap.size + 1 + 1 + 1 + 1 + 1 + 1, 0, none⟩) 1 1] 26)).alloc (.cells #[.int .i64 3] 3)).alloc (.cells #[.int .i64 1] 3)).alloc (.cells #[.slice (some ⟨w.heap.size + 1 + 1, 0, none⟩) 1 1, .int .i64 1, .int .i64 7] 70)).alloc (.cells #[.int .i64 2] 3)).alloc (.cells #[.int .i64 0, .slice (some ⟨w.heap.size + 1 + 1 + 1 + 1, 0, none⟩) 1 1, .int .i64 1] 55)).alloc (.cells #[.slice none 0 0, .slice (some ⟨w.heap.size + 1 + 1 + 1 + 1 + 1, 0, none⟩) 1 1, .int .i64 0] 53)) ((((((((w.alloc (.cells #[.slice (some ⟨w.heap.size + 1, 0, none⟩) 1 1, .slice (some ⟨w.heap.size + 1 + 1 + 1, 0, none⟩) 1 1, .slice (some ⟨w.heap.size + 1 + 1 + 1 + 1 + 1 + 1, 0, none⟩) 1 1] 26)).alloc (.cells #[.int .i64 3] 3)).alloc (.cells #[.int .i64 1] 3)).alloc (.cells #[.slice (some ⟨w.heap.size + 1 + 1, 0, none⟩) 1 1, .int .i64 1, .int .i64 7] 70)).alloc (.cells #[.int .i64 2] 3)).alloc (.cells #[.int .i64 0, .slice (some ⟨w.heap.size + 1 + 1 + 1 + 1, 0, none⟩) 1 1, .int .i64 1] 55)).alloc (.cells #[.slice none 0 0, .slice (some ⟨w.heap.size + 1 + 1 + 1 + 1 + 1, 0, none⟩) 1 1, .int .i64 0] 53))).heap.size (ctx w) := by
  have z : ((((((((w.alloc (.cells #[.slice (some ⟨w.heap.size + 1, 0, none⟩) 1 1, .slice (some ⟨w.heap.size + 1 + 1 + 1, 0, none⟩) 1 1, .slice (some ⟨w.heap.size + 1 + 1 + 1 + 1 + 1 + 1, 0, none⟩) 1 1] 26)).alloc (.cells #[.int .i64 3] 3)).alloc (.cells #[.int .i64 1] 3)).alloc (.cells #[.slice (some ⟨w.heap.size + 1 + 1, 0, none⟩) 1 1, .int .i64 1, .int .i64 7] 70)).alloc (.cells #[.int .i64 2] 3)).alloc (.cells #[.int .i64 0, .slice (some ⟨w.heap.size + 1 + 1 + 1 + 1, 0, none⟩) 1 1, .int .i64 1] 55)).alloc (.cells #[.slice none 0 0, .slice (some ⟨w.heap.size + 1 + 1 + 1 + 1 + 1, 0, none⟩) 1 1, .int .i64 0] 53))).heap.size = w.heap.size + 7 := by simp
  have a3 : One (((((((w.alloc (.cells #[.slice (some ⟨w.heap.size + 1, 0, none⟩) 1 1, .slice (some ⟨w.heap.size + 1 + 1 + 1, 0, none⟩) 1 1, .slice (some ⟨w.heap.size + 1 + 1 + 1 + 1 + 1 + 1, 0, none⟩) 1 1] 26)).alloc (.cells #[.int .i64 3] 3)).alloc (.cells #[.int .i64 1] 3)).alloc (.cells #[.slice (some ⟨w.heap.size + 1 + 1, 0, none⟩) 1 1, .int .i64 1, .int .i64 7] 70)).alloc (.cells #[.int .i64 2] 3)).alloc (.cells #[.int .i64 0, .slice (some ⟨w.heap.size + 1 + 1 + 1 + 1, 0, none⟩) 1 1, .int .i64 1] 55)).alloc (.cells #[.slice none 0 0, .slice (some ⟨w.heap.size + 1 + 1 + 1 + 1 + 1, 0, none⟩) 1 1, .int .i64 0] 53)) (w.heap.size + 1) (.int .i64 3) := by
    have := one_new (w.alloc (.cells #[.slice (some ⟨w.heap.size + 1, 0, none⟩) 1 1, .slice (some ⟨w.heap.size + 1 + 1 + 1, 0, none⟩) 1 1, .slice (some ⟨w.heap.size + 1 + 1 + 1 + 1 + 1 + 1, 0, none⟩) 1 1] 26)) (.int .i64 3) 3
    rw [World.size_alloc] at this
    exact ((((this.alloc _).alloc _).alloc _).alloc _).alloc _
  have a1 : One (((((((w.alloc (.cells #[.slice (some ⟨w.heap.size + 1, 0, none⟩) 1 1, .slice (some ⟨w.heap.size + 1 + 1 + 1, 0, none⟩) 1 1, .slice (some ⟨w.heap.size + 1 + 1 + 1 + 1 + 1 + 1, 0, none⟩) 1 1] 26)).alloc (.cells #[.int .i64 3] 3)).alloc (.cells #[.int .i64 1] 3)).alloc (.cells #[.slice (some ⟨w.heap.size + 1 + 1, 0, none⟩) 1 1, .int .i64 1, .int .i64 7] 70)).alloc (.cells #[.int .i64 2] 3)).alloc (.cells #[.int .i64 0, .slice (some ⟨w.heap.size + 1 + 1 + 1 + 1, 0, none⟩) 1 1, .int .i64 1] 55)).alloc (.cells #[.slice none 0 0, .slice (some ⟨w.heap.size + 1 + 1 + 1 + 1 + 1, 0, none⟩) 1 1, .int .i64 0] 53)) (w.heap.size + 1 + 1) (.int .i64 1) := by
    have := one_new ((w.alloc (.cells #[.slice (some ⟨w.heap.size + 1, 0, none⟩) 1 1, .slice (some ⟨w.heap.size + 1 + 1 + 1, 0, none⟩) 1 1, .slice (some ⟨w.heap.size + 1 + 1 + 1 + 1 + 1 + 1, 0, none⟩) 1 1] 26)).alloc (.cells #[.int .i64 3] 3)) (.int .i64 1) 3
    rw [World.size_alloc, World.size_alloc] at this
    exact (((this.alloc _).alloc _).alloc _).alloc _
  have aC : Tri (((((((w.alloc (.cells #[.slice (some ⟨w.heap.size + 1, 0, none⟩) 1 1, .slice (some ⟨w.heap.size + 1 + 1 + 1, 0, none⟩) 1 1, .slice (some ⟨w.heap.size + 1 + 1 + 1 + 1 + 1 + 1, 0, none⟩) 1 1] 26)).alloc (.cells #[.int .i64 3] 3)).alloc (.cells #[.int .i64 1] 3)).alloc (.cells #[.slice (some ⟨w.heap.size + 1 + 1, 0, none⟩) 1 1, .int .i64 1, .int .i64 7] 70)).alloc (.cells #[.int .i64 2] 3)).alloc (.cells #[.int .i64 0, .slice (some ⟨w.heap.size + 1 + 1 + 1 + 1, 0, none⟩) 1 1, .int .i64 1] 55)).alloc (.cells #[.slice none 0 0, .slice (some ⟨w.heap.size + 1 + 1 + 1 + 1 + 1, 0, none⟩) 1 1, .int .i64 0] 53)) (w.heap.size + 1 + 1 + 1) (.slice (some ⟨w.heap.size + 1 + 1, 0, none⟩) 1 1) (.int .i64 1) (.int .i64 7) := by
    have := tri_new (((w.alloc (.cells #[.slice (some ⟨w.heap.size + 1, 0, none⟩) 1 1, .slice (some ⟨w.heap.size + 1 + 1 + 1, 0, none⟩) 1 1, .slice (some ⟨w.heap.size + 1 + 1 + 1 + 1 + 1 + 1, 0, none⟩) 1 1] 26)).alloc (.cells #[.int .i64 3] 3)).alloc (.cells #[.int .i64 1] 3)) (.slice (some ⟨w.heap.size + 1 + 1, 0, none⟩) 1 1) (.int .i64 1) (.int .i64 7) 70
    rw [World.size_alloc, World.size_alloc, World.size_alloc] at this
    exact ((this.alloc _).alloc _).alloc _
  have a2 : One (((((((w.alloc (.cells #[.slice (some ⟨w.heap.size + 1, 0, none⟩) 1 1, .slice (some ⟨w.heap.size + 1 + 1 + 1, 0, none⟩) 1 1, .slice (some ⟨w.heap.size + 1 + 1 + 1 + 1 + 1 + 1, 0, none⟩) 1 1] 26)).alloc (.cells #[.int .i64 3] 3)).alloc (.cells #[.int .i64 1] 3)).alloc (.cells #[.slice (some ⟨w.heap.size + 1 + 1, 0, none⟩) 1 1, .int .i64 1, .int .i64 7] 70)).alloc (.cells #[.int .i64 2] 3)).alloc (.cells #[.int .i64 0, .slice (some ⟨w.heap.size + 1 + 1 + 1 + 1, 0, none⟩) 1 1, .int .i64 1] 55)).alloc (.cells #[.slice none 0 0, .slice (some ⟨w.heap.size + 1 + 1 + 1 + 1 + 1, 0, none⟩) 1 1, .int .i64 0] 53)) (w.heap.size + 1 + 1 + 1 + 1) (.int .i64 2) := by
    have := one_new ((((w.alloc (.cells #[.slice (some ⟨w.heap.size + 1, 0, none⟩) 1 1, .slice (some ⟨w.heap.size + 1 + 1 + 1, 0, none⟩) 1 1, .slice (some ⟨w.heap.size + 1 + 1 + 1 + 1 + 1 + 1, 0, none⟩) 1 1] 26)).alloc (.cells #[.int .i64 3] 3)).alloc (.cells #[.int .i64 1] 3)).alloc (.cells #[.slice (some ⟨w.heap.size + 1 + 1, 0, none⟩) 1 1, .int .i64 1, .int .i64 7] 70)) (.int .i64 2) 3
    rw [World.size_alloc, World.size_alloc, World.size_alloc, World.size_alloc] at this
    exact (this.alloc _).alloc _
  have aD : Tri (((((((w.alloc (.cells #[.slice (some ⟨w.heap.size + 1, 0, none⟩) 1 1, .slice (some ⟨w.heap.size + 1 + 1 + 1, 0, none⟩) 1 1, .slice (some ⟨w.heap.size + 1 + 1 + 1 + 1 + 1 + 1, 0, none⟩) 1 1] 26)).alloc (.cells #[.int .i64 3] 3)).alloc (.cells #[.int .i64 1] 3)).alloc (.cells #[.slice (some ⟨w.heap.size + 1 + 1, 0, none⟩) 1 1, .int .i64 1, .int .i64 7] 70)).alloc (.cells #[.int .i64 2] 3)).alloc (.cells #[.int .i64 0, .slice (some ⟨w.heap.size + 1 + 1 + 1 + 1, 0, none⟩) 1 1, .int .i64 1] 55)).alloc (.cells #[.slice none 0 0, .slice (some ⟨w.heap.size + 1 + 1 + 1 + 1 + 1, 0, none⟩) 1 1, .int .i64 0] 53)) (w.heap.size + 1 + 1 + 1 + 1 + 1) (.int .i64 0) (.slice (some ⟨w.heap.size + 1 + 1 + 1 + 1, 0, none⟩) 1 1) (.int .i64 1) := by
    have := tri_new (((((w.alloc (.cells #[.slice (some ⟨w.heap.size + 1, 0, none⟩) 1 1, .slice (some ⟨w.heap.size + 1 + 1 + 1, 0, none⟩) 1 1, .slice (some ⟨w.heap.size + 1 + 1 + 1 + 1 + 1 + 1, 0, none⟩) 1 1] 26)).alloc (.cells #[.int .i64 3] 3)).alloc (.cells #[.int .i64 1] 3)).alloc (.cells #[.slice (some ⟨w.heap.size + 1 + 1, 0, none⟩) 1 1, .int .i64 1, .int .i64 7] 70)).alloc (.cells #[.int .i64 2] 3)) (.int .i64 0) (.slice (some ⟨w.heap.size + 1 + 1 + 1 + 1, 0, none⟩) 1 1) (.int .i64 1) 55
    rw [World.size_alloc, World.size_alloc, World.size_alloc, World.size_alloc, World.size_alloc] at this
    exact this.alloc _
  have aE : Tri (((((((w.alloc (.cells #[.slice (some ⟨w.heap.size + 1, 0, none⟩) 1 1, .slice (some ⟨w.heap.size + 1 + 1 + 1, 0, none⟩) 1 1, .slice (some ⟨w.heap.size + 1 + 1 + 1 + 1 + 1 + 1, 0, none⟩) 1 1] 26)).alloc (.cells #[.int .i64 3] 3)).alloc (.cells #[.int .i64 1] 3)).alloc (.cells #[.slice (some ⟨w.heap.size + 1 + 1, 0, none⟩) 1 1, .int .i64 1, .int .i64 7] 70)).alloc (.cells #[.int .i64 2] 3)).alloc (.cells #[.int .i64 0, .slice (some ⟨w.heap.size + 1 + 1 + 1 + 1, 0, none⟩) 1 1, .int .i64 1] 55)).alloc (.cells #[.slice none 0 0, .slice (some ⟨w.heap.size + 1 + 1 + 1 + 1 + 1, 0, none⟩) 1 1, .int .i64 0] 53)) (w.heap.size + 1 + 1 + 1 + 1 + 1 + 1) (.slice none 0 0) (.slice (some ⟨w.heap.size + 1 + 1 + 1 + 1 + 1, 0, none⟩) 1 1) (.int .i64 0) := by
    have := tri_new ((((((w.alloc (.cells #[.slice (some ⟨w.heap.size + 1, 0, none⟩) 1 1, .slice (some ⟨w.heap.size + 1 + 1 + 1, 0, none⟩) 1 1, .slice (some ⟨w.heap.size + 1 + 1 + 1 + 1 + 1 + 1, 0, none⟩) 1 1] 26)).alloc (.cells #[.int .i64 3] 3)).alloc (.cells #[.int .i64 1] 3)).alloc (.cells #[.slice (some ⟨w.heap.size + 1 + 1, 0, none⟩) 1 1, .int .i64 1, .int .i64 7] 70)).alloc (.cells #[.int .i64 2] 3)).alloc (.cells #[.int .i64 0, .slice (some ⟨w.heap.size + 1 + 1 + 1 + 1, 0, none⟩) 1 1, .int .i64 1] 55)) (.slice none 0 0) (.slice (some ⟨w.heap.size + 1 + 1 + 1 + 1 + 1, 0, none⟩) 1 1) (.int .i64 0) 53
    rw [World.size_alloc, World.size_alloc, World.size_alloc, World.size_alloc, World.size_alloc, World.size_alloc] at this
    exact this
  generalize (((((((w.alloc (.cells #[.slice (some ⟨w.heap.size + 1, 0, none⟩) 1 1, .slice (some ⟨w.heap.size + 1 + 1 + 1, 0, none⟩) 1 1, .slice (some ⟨w.heap.size + 1 + 1 + 1 + 1 + 1 + 1, 0, none⟩) 1 1] 26)).alloc (.cells #[.int .i64 3] 3)).alloc (.cells #[.int .i64 1] 3)).alloc (.cells #[.slice (some ⟨w.heap.size + 1 + 1, 0, none⟩) 1 1, .int .i64 1, .int .i64 7] 70)).alloc (.cells #[.int .i64 2] 3)).alloc (.cells #[.int .i64 0, .slice (some ⟨w.heap.size + 1 + 1 + 1 + 1, 0, none⟩) 1 1, .int .i64 1] 55)).alloc (.cells #[.slice none 0 0, .slice (some ⟨w.heap.size + 1 + 1 + 1 + 1 + 1, 0, none⟩) 1 1, .int .i64 0] 53)) = W at *
  have l : ∀ {g : Nat} {v : Int}, One W g (.int .i64 v) → Lst W W.heap.size (some ⟨g, 0, none⟩) 1 [v] := fun h => lst_cell h.lt h.fst (by omega) (by simp [maxLen])
  refine ⟨l a3, ⟨fun _ => ⟨_, 0, rfl, aC.lt, fun k hk => ?_⟩, by simp [ctx], by simp [maxLen, ctx]⟩, ⟨fun _ => ⟨_, 0, rfl, aE.lt, fun k hk => ?_⟩, by simp [ctx], by simp [maxLen, ctx]⟩⟩
  · obtain rfl : k = 0 := by simp [ctx] at hk; omega
    exact ⟨_, _, ⟨aC.c0, aC.c1, aC.c2⟩, l a1⟩
  · obtain rfl : k = 0 := by simp [ctx] at hk; omega
    refine ⟨none, _, 0, _, ⟨aE.c0, aE.c1, aE.c2⟩, ⟨fun h => by simp [ctx, nop] at h, by simp [ctx, nop], by simp [maxLen]⟩, ⟨fun _ => ⟨_, 0, rfl, aD.lt, fun k hk => ?_⟩, by simp [ctx, nop], by simp [maxLen]⟩⟩
    obtain rfl : k = 0 := by simp [ctx, nop] at hk; omega
    exact ⟨_, _, ⟨aD.c0, aD.c1, aD.c2⟩, l a2⟩
set_option maxHeartbeats 2000000 in
theorem counter_any (w : World) : Calls Try.prog 26 #[] w (CtPost w) := by
  have HC := Lib.hid (ct_in w)
  have HT := Lib.hid (show Tri (((((((w.alloc (.cells #[.slice (some ⟨w.heap.size + 1, 0, none⟩) 1 1, .slice (some ⟨w.heap.size + 1 + 1 + 1, 0, none⟩) 1 1, .slice (some ⟨w.heap.size + 1 + 1 + 1 + 1 + 1 + 1, 0, none⟩) 1 1] 26)).alloc (.cells #[.int .i64 3] 3)).alloc (.cells #[.int .i64 1] 3)).alloc (.cells #[.slice (some ⟨w.heap.size + 1 + 1, 0, none⟩) 1 1, .int .i64 1, .int .i64 7] 70)).alloc (.cells #[.int .i64 2] 3)).alloc (.cells #[.int .i64 0, .slice (some ⟨w.heap.size + 1 + 1 + 1 + 1, 0, none⟩) 1 1, .int .i64 1] 55)).alloc (.cells #[.slice none 0 0, .slice (some ⟨w.heap.size + 1 + 1 + 1 + 1 + 1, 0, none⟩) 1 1, .int .i64 0] 53)) w.heap.size (.slice (some ⟨w.heap.size + 1, 0, none⟩) 1 1) (.slice (some ⟨w.heap.size + 1 + 1 + 1, 0, none⟩) 1 1) (.slice (some ⟨w.heap.size + 1 + 1 + 1 + 1 + 1 + 1, 0, none⟩) 1 1) from (((((tri_new w _ _ _ _).alloc _).alloc _).alloc _).alloc _).alloc _ |>.alloc _)
  have HB := Lib.hid (show Below w.heap.size w (((((((w.alloc (.cells #[.slice (some ⟨w.heap.size + 1, 0, none⟩) 1 1, .slice (some ⟨w.heap.size + 1 + 1 + 1, 0, none⟩) 1 1, .slice (some ⟨w.heap.size + 1 + 1 + 1 + 1 + 1 + 1, 0, none⟩) 1 1] 26)).alloc (.cells #[.int .i64 3] 3)).alloc (.cells #[.int .i64 1] 3)).alloc (.cells #[.slice (some ⟨w.heap.size + 1 + 1, 0, none⟩) 1 1, .int .i64 1, .int .i64 7] 70)).alloc (.cells #[.int .i64 2] 3)).alloc (.cells #[.int .i64 0, .slice (some ⟨w.heap.size + 1 + 1 + 1 + 1, 0, none⟩) 1 1, .int .i64 1] 55)).alloc (.cells #[.slice none 0 0, .slice (some ⟨w.heap.size + 1 + 1 + 1 + 1 + 1, 0, none⟩) 1 1, .int .i64 0] 53)) by go_grown)
  go_enter Try.func26, Try.ntmps26
  go_wp2
  refine post_tri (g := w.heap.size) Try.results26 rfl HT.out ?_
  exact ⟨ctx w, rfl, ⟨rfl, rfl, rfl⟩, HC.out, HB.out⟩
end Go.Proofs.Ytiafplmaigpmeaa
