/- Contracts of the leaves of package types and of its reference: isLetter, In, isType, Name, isName. -/
import Derived.Test.YtjmkilmpfaapbaaRows
import Derived.WalkKit
import Derived.WalkSpells
import Derived.WalkLawsBesides
import Derived.Handy
import Derived.Lib.Hide
namespace Go.Proofs.Ytjmkilmpfaapbaa
open Go.RowKit
set_option linter.unusedSimpArgs false
set_option linter.unusedVariables false
set_option maxRecDepth 100000

def inB (x a b : Int) : Bool := decide (a ≤ x ∧ x ≤ b)

set_option maxHeartbeats 400000 in
theorem in_any (x a b : Int) (w : World) :
    Calls Try.prog 25 #[.int .i64 x, .int .i64 a, .int .i64 b] w fun e w' => e = .returned (.bool (inB x a b)) ∧ w = w' := by
  by_cases h1 : a ≤ x <;> by_cases h2 : x ≤ b <;>
  · go_enter Try.func25, Try.ntmps25
    go_wp2
    go_ret
    exact ⟨by simp [inB, h1, h2], rfl⟩

def letB (c : Int) : Bool := inB c 97 122
def digB (c : Int) : Bool := inB c 48 57
def hypB (c : Int) : Bool := decide (c = 45)
def tailB (c : Int) : Bool := letB c || digB c || hypB c

set_option maxHeartbeats 400000 in
theorem letter_any (c : Int) (w : World) :
    Calls Try.prog 38 #[.int .u8 c] w fun e w' => e = .returned (.bool (letB c)) ∧ w = w' := by
  by_cases h1 : 97 ≤ c <;> by_cases h2 : c ≤ 122 <;>
  · go_enter Try.func38, Try.ntmps38
    go_wp2
    go_ret
    exact ⟨by simp [letB, inB, h1, h2], rfl⟩

def istB (n : Nat) (t : Int) : Bool := decide (-1 ≤ t ∧ t < n)

set_option maxHeartbeats 400000 in
theorem isType_any (A : Option Addr) (n c : Nat) (t : Int) (w : World) :
    Calls Try.prog 35 #[.slice A n c, .int .i64 t] w fun e w' => e = .returned (.bool (istB n t)) ∧ w = w' := by
  by_cases h1 : -1 ≤ t <;> by_cases h2 : t < n <;>
  · go_enter Try.func35, Try.ntmps35
    go_wp2
    go_ret
    exact ⟨by simp [istB, h1, h2], rfl⟩

end Go.Proofs.Ytjmkilmpfaapbaa
