/- Regress of package strips. -/
import Derived.Test.YtenmegkokclolaaDoorKay
namespace Go.Proofs.YtenmegkokclolaaDoor
open Go.RowKit
set_option linter.unusedSimpArgs false
set_option linter.unusedVariables false
set_option maxRecDepth 100000

theorem post_two_fault {fn : Func} {R : Ending → World → Prop} {tmps : Array Value} {W : World} {s t t2 : Tmp} {g : Nat} {x y : Value} (hres : fn.results = #[.tmp t, .tmp t2, .cell s 27]) (ht : tmps.getD s undef = .pointer (some ⟨g, 0, none⟩)) (hT : Two W g x y) (hR : R (.returned (.tuple #[tmps.getD t undef, tmps.getD t2 undef, .agg #[x, y]])) W) :
    bodyPost Tryd.prog fn R .ret { tmps := tmps, defers := [] } W := by
  refine bodyPost_ret (v := .tuple #[tmps.getD t undef, tmps.getD t2 undef, .agg #[x, y]]) ?_ rfl hR
  simp only [results, hres]
  rw [Array.getD_eq_getD_getElem?] at ht
  simp [go_sem, ht, hT.fst, hT.snd]

theorem Fr1.drewN {w W : World} {x : Tsk} {u v : Int} (h : Fr1 w W x u v) (n : Nat) : Fr1 w (W.drewN n) x u v :=
  ⟨belowN h.below n, ⟨h.box.lt, h.box.c0, h.box.c1, h.box.c2, h.box.c3⟩, twoN h.two n⟩

def reB (x : Tsk) (goal : List Int) (op : Int) : Bool := decide ((ckF x goal [op]).1 = 0) && disB goal (opn x op).del
def reL (x : Tsk) (goal : List Int) (op : Int) : List Int := if reB x goal op then regL x.n.toNat (opn x op).pre (opn x op).add goal else []
def RegPost (w : World) (f : Int × Int) (b : Bool) (xs : List Int) (e : Ending) (w' : World) : Prop := ∃ v, e = .returned (.tuple #[v, .bool b, faultV f]) ∧ SliceOf w' v xs ∧ Below w.heap.size w w'
theorem regL_isS (n : Nat) (pre add goal : List Int) : IsS (regL n pre add goal) n := facs_isS _ _
theorem reg_bits {n : Nat} (hn : n ≤ 24) {o : Opr} (ho : OpS o n) {s : List Int} (hs : IsS s n) :
    bits .or .u64 (mask o.pre : Int) (bits .andNot .u64 (mask s : Int) (mask o.add : Int)) = (mask (regL n o.pre o.add s) : Int) := by
  have h24 : ∀ {l : List Int}, IsS l n → IsS l 24 := fun h => h.mono (by omega)
  have h1 := mask_lt64 (h24 hs)
  rw [u64_andNot_nat _ _ h1 (mask_lt64 (h24 ho.add)), u64_or_nat _ _ (mask_lt64 (h24 ho.pre)) (Nat.lt_of_le_of_lt Nat.and_le_left h1), mask_reg hn ho.pre ho.add hs]

end Go.Proofs.YtenmegkokclolaaDoor
