/- Applicable, Apply, Solves and Cost of package multi. -/
import Derived.Test.YtenmegkokclolaaDoorMzv
import Derived.Test.YtenmegkokclolaaDoorMzc
import Derived.Test.YtenmegkokclolaaDoorMso
namespace Go.Proofs.YtenmegkokclolaaDoor
open Go.RowKit
set_option linter.unusedSimpArgs false
set_option linter.unusedVariables false
set_option maxRecDepth 100000


theorem FrM.toB {w W W' : World} {x : MT} {u v : Int} {base : Nat} (h : FrM w W x u v) (hb : Below base W W') (hB : w.heap.size + 2 ≤ base) : FrM w W' x u v :=
  ⟨h.below.trans (hb.mono (by omega)), h.box.to hb (by omega), h.two.to hb (by omega)⟩
theorem own_far2 {W : World} {base : Nat} {e : TypeId} {size : Nat} {v : Value} {n : Nat} {xs : List Value} (h : W.ownsRow base e size v n xs) {p : Addr} (hp : p.block < base) (u : Value) : (W.setCell p u).ownsRow base e size v n xs := by
  refine h.kept (set_grown W p u) ?_
  cases hv : v.ownBlock with
  | none => exact .inl rfl
  | some q => exact .inr (fun e => by have := (h.lt q hv).1; cases e; omega)
theorem ck_ok {x : MT} {s plan : List Int} (h : (ckM x s plan).1 = 0) : MVal x ∧ msB x.sizes s = true ∧ planB x.ops.length plan = true ∧ plan.length ≤ 60 ∧ ckM x s plan = (0, 0) := by
  unfold ckM at h ⊢
  split at h
  · rename_i h1; exact absurd h h1
  rename_i h1
  split at h
  · cases h
  rename_i h2
  have h3 : planB x.ops.length plan = true ∧ plan.length ≤ 60 := by
    unfold spF at h
    split at h
    · cases h
    · rename_i h4
      split at h
      · rename_i h5; exact ⟨h5, by omega⟩
      · cases h
  refine ⟨(mf_val (by simpa using h1)).1, by simpa using h2, h3.1, h3.2, ?_⟩
  rw [if_neg h1, if_neg h2]
  unfold spF
  rw [if_neg (by omega), if_pos h3.1]

/-- The applicable operators among the first k. -/
def apN (ops : List MOp) (s : List Int) : Nat → List Int
  | 0 => []
  | k + 1 => if holdB s (mop ops k).pre then apN ops s k ++ [(k : Int)] else apN ops s k
theorem apN_len (ops : List MOp) (s : List Int) : ∀ k, (apN ops s k).length ≤ k
  | 0 => by simp [apN]
  | k + 1 => by
    have := apN_len ops s k
    simp only [apN]
    split <;> simp <;> omega
def apL (x : MT) (s : List Int) : List Int := if (ckM x s []).1 = 0 then apN x.ops s x.ops.length else []
/-- A list and a fault. -/
def LsF (w : World) (l : List Int) (f : Int × Int) (e : Ending) (w' : World) : Prop := ∃ v, e = .returned (.tuple #[v, faultV f]) ∧ w'.ownsRow w.heap.size 3 1 v l.length (l.map (Value.int .i64)) ∧ Below w.heap.size w w'
end Go.Proofs.YtenmegkokclolaaDoor
