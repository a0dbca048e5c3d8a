/- Applicable of package strips. -/
import Derived.Test.YtenmegkokclolaaDoorKcr
namespace Go.Proofs.YtenmegkokclolaaDoor
open Go.RowKit
set_option linter.unusedSimpArgs false
set_option linter.unusedVariables false
set_option maxRecDepth 100000

theorem spF_nil (m : Nat) : spF m [] = (0, 0) := by simp [spF, planB]
theorem ckF_s (x : Tsk) (s : List Int) : ckF x s [] = stF x s := by
  unfold ckF
  split
  · rfl
  · rename_i h
    rw [spF_nil, (stF_zero (x := x) (s := s) (by omega)).1]
theorem setB_nil (n : Int) : setB [] n = true := by simp [setB]
theorem ckF_p (x : Tsk) (plan : List Int) : ckF x [] plan = plF x plan := by
  unfold ckF plF stF
  rw [setB_nil]
  by_cases h : (tkF x).1 = 0 <;> simp [h]
theorem check_s (x : Tsk) (a2 : Option Addr) (c2 : Nat) (s : List Int) (w : World) (hX : TskIn w w.heap.size x) (hS : Lst w w.heap.size a2 c2 s) :
    Calls Tryd.prog 36 #[.agg #[.int .i64 x.n, .slice x.ai x.init.length x.ci, .slice x.ag x.goal.length x.cg, .slice x.ao x.ops.length x.co], .slice a2 s.length c2, .slice none 0 0] w fun e w' => e = .returned (faultV (stF x s)) ∧ Below w.heap.size w w' := by
  have h := check_any x a2 none c2 0 s [] w hX hS (lst_nil _ _)
  rw [ckF_s] at h
  exact h
theorem check_p (x : Tsk) (a3 : Option Addr) (c3 : Nat) (plan : List Int) (w : World) (hX : TskIn w w.heap.size x) (hP : Lst w w.heap.size a3 c3 plan) :
    Calls Tryd.prog 36 #[.agg #[.int .i64 x.n, .slice x.ai x.init.length x.ci, .slice x.ag x.goal.length x.cg, .slice x.ao x.ops.length x.co], .slice none 0 0, .slice a3 plan.length c3] w fun e w' => e = .returned (faultV (plF x plan)) ∧ Below w.heap.size w w' := by
  have h := check_any x none a3 0 c3 [] plan w hX (lst_nil _ _) hP
  rw [ckF_p] at h
  exact h

/-- A slice that holds xs and a fault come back; all below is kept. -/
def SlF (w : World) (f : Int × Int) (xs : List Int) (e : Ending) (w' : World) : Prop := ∃ v, e = .returned (.tuple #[v, faultV f]) ∧ SliceOf w' v xs ∧ Below w.heap.size w w'
theorem sliceOf_nil (w : World) : SliceOf w (.slice none 0 0) [] := ⟨none, 0, rfl, nums_nil _ _ _, by simp, by simp [maxLen]⟩
theorem SliceOf.to {w w' : World} {v : Value} {xs : List Int} (h : SliceOf w v xs) (hb : Below w.heap.size w w') : SliceOf w' v xs := by
  obtain ⟨a, c, rfl, hn, h1, h2⟩ := h
  exact ⟨a, c, rfl, hn.to hb hb.size, h1, h2⟩
theorem SliceOf.set {w : World} {v : Value} {xs : List Int} (h : SliceOf w v xs) : ∃ a c, v = .slice a xs.length c ∧ Lst w w.heap.size a c xs := by
  obtain ⟨a, c, rfl, hn, h1, h2⟩ := h
  exact ⟨a, c, rfl, hn, h1, h2⟩

def appM (x : Tsk) (s : List Int) : List Int := if (stF x s).1 = 0 then facs x.ops.length (fun k => subB (opr x.ops k).pre s) else []

theorem grown_fr1 {w W W' : World} {x : Tsk} {u v : Int} {row : Option Nat} (h : Fr1 w W x u v) (hg : W.grownBy W' row) (hr : ∀ q, row = some q → w.heap.size + 1 < q) : Fr1 w W' x u v := by
  have hb : Below (w.heap.size + 2) W W' := Below.grown (Below.refl _ _) hg (by have := h.two.lt; omega) (fun q hq => by have := hr q hq; omega)
  exact ⟨h.below.trans (hb.mono (by omega)), h.box.to hb (by omega), h.two.to hb (by omega)⟩

end Go.Proofs.YtenmegkokclolaaDoor
