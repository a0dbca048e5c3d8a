/- Apply of package strips. -/
import Derived.Test.YtenmegkokclolaaDoorKap
import Derived.Deep.RegionHeld3
namespace Go.Proofs.YtenmegkokclolaaDoor
open Go.RowKit
set_option linter.unusedSimpArgs false
set_option linter.unusedVariables false
set_option maxRecDepth 100000

theorem lst_one {w : World} {g : Nat} {op : Int} (hg : g < w.heap.size) (h : w.cell? ⟨g, 0, none⟩ = some (.int .i64 op)) : Lst w w.heap.size (some ⟨g, 0, none⟩) 1 [op] :=
  ⟨fun _ => ⟨g, 0, rfl, hg, fun k hk => by
    have : k = 0 := by simp at hk; exact hk
    subst this
    exact h⟩, by simp, by simp [maxLen]⟩
theorem check_o (x : Tsk) (a2 : Option Addr) (c2 : Nat) (s : List Int) (op : Int) (g : Nat) (w : World) (hX : TskIn w w.heap.size x) (hS : Lst w w.heap.size a2 c2 s) (hg : g < w.heap.size) (h : w.cell? ⟨g, 0, none⟩ = some (.int .i64 op)) :
    Calls Tryd.prog 36 #[.agg #[.int .i64 x.n, .slice x.ai x.init.length x.ci, .slice x.ag x.goal.length x.cg, .slice x.ao x.ops.length x.co], .slice a2 s.length c2, .slice (some ⟨g, 0, none⟩) 1 1] w fun e w' => e = .returned (faultV (ckF x s [op])) ∧ Below w.heap.size w w' :=
  check_any x a2 (some ⟨g, 0, none⟩) c2 1 s [op] w hX hS (lst_one hg h)
/-- The operator with the number op. -/
def opn (x : Tsk) (op : Int) : Opr := opr x.ops op.toNat
theorem ckF_op {x : Tsk} {s : List Int} {op : Int} (h : (ckF x s [op]).1 = 0) : ckF x s [op] = (0, 0) ∧ (stF x s).1 = 0 ∧ 0 ≤ op ∧ op < x.ops.length := by
  obtain ⟨h1, h2, _, h3⟩ := ckF_zero h
  have : 0 ≤ ix [op] 0 ∧ ix [op] 0 < x.ops.length := planB_at h3 (k := 0) (Nat.zero_lt_one)
  exact ⟨h1, h2, this.1, this.2⟩
def ayF (x : Tsk) (s : List Int) (op : Int) : Int × Int := if (ckF x s [op]).1 ≠ 0 then ckF x s [op] else if subB (opn x op).pre s then (0, 0) else (11, op)
def ayL (x : Tsk) (s : List Int) (op : Int) : List Int := if (ayF x s op).1 = 0 then aftL x.n.toNat (opn x op).add (opn x op).del s else []

section
variable {W V V' : World} {g b q : Nat} {u0 u1 u2 u3 u4 : Value}
theorem rd_step (hg : g < W.heap.size) (hb : b < W.heap.size) (h : V.cell? ⟨g, 3, none⟩ = some u0 ∧ V.cell? ⟨b, q, none⟩ = some u1 ∧ V.cell? ⟨b, q + 1, none⟩ = some u2 ∧ V.cell? ⟨b, q + 2, none⟩ = some u3 ∧ V.cell? ⟨b, q + 3, none⟩ = some u4 ∧ Below W.heap.size W V) (h2 : Below V.heap.size V V') :
    V'.cell? ⟨g, 3, none⟩ = some u0 ∧ V'.cell? ⟨b, q, none⟩ = some u1 ∧ V'.cell? ⟨b, q + 1, none⟩ = some u2 ∧ V'.cell? ⟨b, q + 2, none⟩ = some u3 ∧ V'.cell? ⟨b, q + 3, none⟩ = some u4 ∧ Below W.heap.size W V' := by
  obtain ⟨h0, h1, hh2, h3, h4, h5⟩ := h
  have hz := h5.size
  exact ⟨(h2.cell (p := ⟨g, 3, none⟩) (by show g < _; omega)).trans h0, (h2.cell (p := ⟨b, q, none⟩) (by show b < _; omega)).trans h1, (h2.cell (p := ⟨b, q + 1, none⟩) (by show b < _; omega)).trans hh2,
    (h2.cell (p := ⟨b, q + 2, none⟩) (by show b < _; omega)).trans h3, (h2.cell (p := ⟨b, q + 3, none⟩) (by show b < _; omega)).trans h4, h5.trans (h2.mono hz)⟩
theorem rd_below (h : V.cell? ⟨g, 3, none⟩ = some u0 ∧ V.cell? ⟨b, q, none⟩ = some u1 ∧ V.cell? ⟨b, q + 1, none⟩ = some u2 ∧ V.cell? ⟨b, q + 2, none⟩ = some u3 ∧ V.cell? ⟨b, q + 3, none⟩ = some u4 ∧ Below W.heap.size W V) : Below W.heap.size W V := h.2.2.2.2.2
end

end Go.Proofs.YtenmegkokclolaaDoor
