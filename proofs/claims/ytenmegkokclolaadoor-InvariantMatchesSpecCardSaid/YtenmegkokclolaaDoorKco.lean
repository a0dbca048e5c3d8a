/- Cost of package strips; Applies, After and CostOf of the reference. -/
import Derived.Test.YtenmegkokclolaaDoorKre
namespace Go.Proofs.YtenmegkokclolaaDoor
open Go.RowKit
set_option linter.unusedSimpArgs false
set_option linter.unusedVariables false
set_option maxRecDepth 100000

theorem own_mono {w : World} {base b2 : Nat} {e : TypeId} {size : Nat} {v : Value} {n : Nat} {xs : List Value} (h : w.ownsRow base e size v n xs) (hb : b2 ≤ base) : w.ownsRow b2 e size v n xs := by
  refine ⟨h.1, ?_⟩
  rcases h.2 with h | ⟨g, cap, cur, rfl, hg, rest⟩
  · exact .inl h
  · exact .inr ⟨g, cap, cur, rfl, by omega, rest⟩

/-- The cost of the first k steps. -/
def costTo (x : Tsk) (plan : List Int) : Nat → Int
  | 0 => 0
  | k + 1 => costTo x plan k + (opn x (ix plan k)).cost
def coM (x : Tsk) (plan : List Int) : Int := if (plF x plan).1 = 0 then costTo x plan plan.length else 0
theorem plF_val {x : Tsk} {plan : List Int} (h : (plF x plan).1 = 0) : Val x x.n.toNat ∧ plan.length ≤ 60 ∧ planB x.ops.length plan = true :=
  ⟨tkF_val (plF_zero h).2.1, (plF_zero h).2.2.1, (plF_zero h).2.2.2⟩
theorem costTo_bd {x : Tsk} {n : Nat} (hv : Val x n) {plan : List Int} (hp : planB x.ops.length plan = true) : ∀ k, k ≤ plan.length → 0 ≤ costTo x plan k ∧ costTo x plan k ≤ 100 * k
  | 0, _ => by simp [costTo]
  | k + 1, h => by
    have ih := costTo_bd hv hp k (by omega)
    have hk := planB_at hp (k := k) (by omega)
    have := hv.ops (ix plan k).toNat (by omega)
    simp only [costTo, opn]
    omega

end Go.Proofs.YtenmegkokclolaaDoor
