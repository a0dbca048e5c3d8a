/-
  NARROWER THAN 'FOR EVERY INPUT', by the rows' own cells (each row's printed sentence says how): PlansMatchSpec: laid · PlansMinimalMatchesSpec: laid · PlansReducedAreSolutions: laid · PlansMinimalStayWhole: laid · PlansFailuresAreReal: laid.
  DERIVED. THE GIVEN ROWS OF THIS SEAT. 5 by the template 'for every input the law returns true; each argument reads behind the call as it read before'; 0 by the template 'total and deterministic' (their statements: YtkflidnclndpkaaDoorTotals.lean).
  GIVEN WITH THE SEED: the statements are not yours to turn. If you find one false, say at which input.
  Laid BY PROGRAM, IN A SANDBOX (cutbox-rows.mjs): the forced cells as the released guide's own fill.sh prints them over the translation a269c6f69a0d59aa… (all of the seat's roots in one cut). By AI agents, Wed Nov 11 2026. No macro, syntax, notation, axiom, sorry.
-/
import Derived.Test.YtkflidnclndpkaaDoorChecked
import GoSem.Claim
import GoSem.ClaimJoined
import GoSem.ClaimMapViews
import Derived.JoinedTies
import Derived.KernelRfl
namespace Go.Proofs.YtkflidnclndpkaaDoor
/- THE CELL 'sum', in the pinned program and in every row, IS THE sha256 OF THE DUMP (.gsa) THAT YtkflidnclndpkaaDoorProg.lean LOADS. Nothing in Lean hashes anything: it is a label: what it is worth is what the hold of that sum in a sandbox is worth. -/
noncomputable def Tryd.pinned : Pinned := { name := "ytkflidnclndpkaadoor", sum := "a269c6f69a0d59aab7081b37eab376ce70f9485a445374d3a4c54a01f7b5276c", checked := Tryd.checked }
namespace Rows
def none {H : Type} : Left H := { results := [], args := [] }

/- WHAT THE LISTED PACKAGE-LEVEL VARIABLES READ AS WHEN THE CALL BEGINS. Each datum BY PROGRAM (the guide's laid-datum.mjs) off the statement by which the dump's own 'gosem.cut.vars' lays the variable. In a bare row this is a premise. The card (YtkflidnclndpkaaDoorCards.lean) ties it to the program's text. -/
def laid_math_bits_deBruijn64tab {H : Type} : DataW H := .agg [.lit (.int .u8 0), .lit (.int .u8 1), .lit (.int .u8 56), .lit (.int .u8 2), .lit (.int .u8 57), .lit (.int .u8 49), .lit (.int .u8 28), .lit (.int .u8 3), .lit (.int .u8 61), .lit (.int .u8 58), .lit (.int .u8 42), .lit (.int .u8 50), .lit (.int .u8 38), .lit (.int .u8 29), .lit (.int .u8 17), .lit (.int .u8 4), .lit (.int .u8 62), .lit (.int .u8 47), .lit (.int .u8 59), .lit (.int .u8 36), .lit (.int .u8 45), .lit (.int .u8 43), .lit (.int .u8 51), .lit (.int .u8 22), .lit (.int .u8 53), .lit (.int .u8 39), .lit (.int .u8 33), .lit (.int .u8 30), .lit (.int .u8 24), .lit (.int .u8 18), .lit (.int .u8 12), .lit (.int .u8 5), .lit (.int .u8 63), .lit (.int .u8 55), .lit (.int .u8 48), .lit (.int .u8 27), .lit (.int .u8 60), .lit (.int .u8 41), .lit (.int .u8 37), .lit (.int .u8 16), .lit (.int .u8 46), .lit (.int .u8 35), .lit (.int .u8 44), .lit (.int .u8 21), .lit (.int .u8 52), .lit (.int .u8 32), .lit (.int .u8 23), .lit (.int .u8 11), .lit (.int .u8 54), .lit (.int .u8 26), .lit (.int .u8 40), .lit (.int .u8 15), .lit (.int .u8 34), .lit (.int .u8 20), .lit (.int .u8 31), .lit (.int .u8 10), .lit (.int .u8 25), .lit (.int .u8 14), .lit (.int .u8 19), .lit (.int .u8 9), .lit (.int .u8 13), .lit (.int .u8 8), .lit (.int .u8 7), .lit (.int .u8 6)]

/-- 'helmsmanlaw1.PlansMatchSpec': WHATEVER THE INPUT: true; the input reads as it did. -/
def plansMatchSpecSpec : ChangeSpec := { name := "plansMatchSpec", fn := fun _ => fun
  | [d1, d2] => { results := [.lit (.bool true)], args := [d1, d2] }
  | _ => none }
def plansMatchSpecRow : OpenClaim := { program := "ytkflidnclndpkaadoor", sum := "a269c6f69a0d59aab7081b37eab376ce70f9485a445374d3a4c54a01f7b5276c", func := "helmsman/helmsmanlaw1.PlansMatchSpec", spec := "plansMatchSpec", unfollowed := true, recurses := true, named := ["math/bits.deBruijn64tab"], apart := false, laid := [("math/bits.deBruijn64tab", laid_math_bits_deBruijn64tab)] }
def PlansMatchSpecSaid : Prop := plansMatchSpecRow.holds Tryd.pinned (OpenSpec.ofChange plansMatchSpecSpec)

/-- ITS FALSE NEIGHBOUR: 'it returns false'. Refute it at one input. -/
def plansMatchSpecWrong : ChangeSpec := { name := "plansMatchSpec", fn := fun _ => fun
  | [d1, d2] => { results := [.lit (.bool false)], args := [d1, d2] }
  | _ => none }
def PlansMatchSpecWrongFalsely : Prop := plansMatchSpecRow.holds Tryd.pinned (OpenSpec.ofChange plansMatchSpecWrong)

/-- 'helmsmanlaw1.PlansMinimalMatchesSpec': WHATEVER THE INPUT: true; the input reads as it did. -/
def plansMinimalMatchesSpecSpec : ChangeSpec := { name := "plansMinimalMatchesSpec", fn := fun _ => fun
  | [d1, d2] => { results := [.lit (.bool true)], args := [d1, d2] }
  | _ => none }
def plansMinimalMatchesSpecRow : OpenClaim := { program := "ytkflidnclndpkaadoor", sum := "a269c6f69a0d59aab7081b37eab376ce70f9485a445374d3a4c54a01f7b5276c", func := "helmsman/helmsmanlaw1.PlansMinimalMatchesSpec", spec := "plansMinimalMatchesSpec", unfollowed := true, recurses := true, named := ["math/bits.deBruijn64tab"], apart := false, laid := [("math/bits.deBruijn64tab", laid_math_bits_deBruijn64tab)] }
def PlansMinimalMatchesSpecSaid : Prop := plansMinimalMatchesSpecRow.holds Tryd.pinned (OpenSpec.ofChange plansMinimalMatchesSpecSpec)

/-- ITS FALSE NEIGHBOUR: 'it returns false'. Refute it at one input. -/
def plansMinimalMatchesSpecWrong : ChangeSpec := { name := "plansMinimalMatchesSpec", fn := fun _ => fun
  | [d1, d2] => { results := [.lit (.bool false)], args := [d1, d2] }
  | _ => none }
def PlansMinimalMatchesSpecWrongFalsely : Prop := plansMinimalMatchesSpecRow.holds Tryd.pinned (OpenSpec.ofChange plansMinimalMatchesSpecWrong)

/-- 'helmsmanlaw1.PlansReducedAreSolutions': WHATEVER THE INPUT: true; the input reads as it did. -/
def plansReducedAreSolutionsSpec : ChangeSpec := { name := "plansReducedAreSolutions", fn := fun _ => fun
  | [d1, d2] => { results := [.lit (.bool true)], args := [d1, d2] }
  | _ => none }
def plansReducedAreSolutionsRow : OpenClaim := { program := "ytkflidnclndpkaadoor", sum := "a269c6f69a0d59aab7081b37eab376ce70f9485a445374d3a4c54a01f7b5276c", func := "helmsman/helmsmanlaw1.PlansReducedAreSolutions", spec := "plansReducedAreSolutions", unfollowed := true, recurses := true, named := ["math/bits.deBruijn64tab"], apart := false, laid := [("math/bits.deBruijn64tab", laid_math_bits_deBruijn64tab)] }
def PlansReducedAreSolutionsSaid : Prop := plansReducedAreSolutionsRow.holds Tryd.pinned (OpenSpec.ofChange plansReducedAreSolutionsSpec)

/-- ITS FALSE NEIGHBOUR: 'it returns false'. Refute it at one input. -/
def plansReducedAreSolutionsWrong : ChangeSpec := { name := "plansReducedAreSolutions", fn := fun _ => fun
  | [d1, d2] => { results := [.lit (.bool false)], args := [d1, d2] }
  | _ => none }
def PlansReducedAreSolutionsWrongFalsely : Prop := plansReducedAreSolutionsRow.holds Tryd.pinned (OpenSpec.ofChange plansReducedAreSolutionsWrong)

/-- 'helmsmanlaw1.PlansMinimalStayWhole': WHATEVER THE INPUT: true; the input reads as it did. -/
def plansMinimalStayWholeSpec : ChangeSpec := { name := "plansMinimalStayWhole", fn := fun _ => fun
  | [d1, d2, d3] => { results := [.lit (.bool true)], args := [d1, d2, d3] }
  | _ => none }
def plansMinimalStayWholeRow : OpenClaim := { program := "ytkflidnclndpkaadoor", sum := "a269c6f69a0d59aab7081b37eab376ce70f9485a445374d3a4c54a01f7b5276c", func := "helmsman/helmsmanlaw1.PlansMinimalStayWhole", spec := "plansMinimalStayWhole", unfollowed := true, recurses := true, named := ["math/bits.deBruijn64tab"], apart := false, laid := [("math/bits.deBruijn64tab", laid_math_bits_deBruijn64tab)] }
def PlansMinimalStayWholeSaid : Prop := plansMinimalStayWholeRow.holds Tryd.pinned (OpenSpec.ofChange plansMinimalStayWholeSpec)

/-- ITS FALSE NEIGHBOUR: 'it returns false'. Refute it at one input. -/
def plansMinimalStayWholeWrong : ChangeSpec := { name := "plansMinimalStayWhole", fn := fun _ => fun
  | [d1, d2, d3] => { results := [.lit (.bool false)], args := [d1, d2, d3] }
  | _ => none }
def PlansMinimalStayWholeWrongFalsely : Prop := plansMinimalStayWholeRow.holds Tryd.pinned (OpenSpec.ofChange plansMinimalStayWholeWrong)

/-- 'helmsmanlaw1.PlansFailuresAreReal': WHATEVER THE INPUT: true; the input reads as it did. -/
def plansFailuresAreRealSpec : ChangeSpec := { name := "plansFailuresAreReal", fn := fun _ => fun
  | [d1, d2] => { results := [.lit (.bool true)], args := [d1, d2] }
  | _ => none }
def plansFailuresAreRealRow : OpenClaim := { program := "ytkflidnclndpkaadoor", sum := "a269c6f69a0d59aab7081b37eab376ce70f9485a445374d3a4c54a01f7b5276c", func := "helmsman/helmsmanlaw1.PlansFailuresAreReal", spec := "plansFailuresAreReal", unfollowed := true, recurses := true, named := ["math/bits.deBruijn64tab"], apart := false, laid := [("math/bits.deBruijn64tab", laid_math_bits_deBruijn64tab)] }
def PlansFailuresAreRealSaid : Prop := plansFailuresAreRealRow.holds Tryd.pinned (OpenSpec.ofChange plansFailuresAreRealSpec)

/-- ITS FALSE NEIGHBOUR: 'it returns false'. Refute it at one input. -/
def plansFailuresAreRealWrong : ChangeSpec := { name := "plansFailuresAreReal", fn := fun _ => fun
  | [d1, d2] => { results := [.lit (.bool false)], args := [d1, d2] }
  | _ => none }
def PlansFailuresAreRealWrongFalsely : Prop := plansFailuresAreRealRow.holds Tryd.pinned (OpenSpec.ofChange plansFailuresAreRealWrong)

/- THE SECOND FORM. 'bulk': how many values and letters a reading holds, each counted each time it is reached (what is shared counts as often as it is met; a slice's spare places count too). A statement '..UptoSaid' is the law's where the arguments, and the package variables that the reading takes, are together of bulk at most 1048576: NARROWER than '..Said'. Prove '..Said' where nothing that the law and all that it calls make is longer than what came in: it says more and counts as full. Else prove '..UptoSaid'. A law counts once. -/
mutual
def uptoBulk {H : Type} : DataW H → Nat
  | .lit (.string bytes) => bytes.length + 1
  | .lit _ => 1
  | .nil => 1
  | .ptr d => uptoBulk d + 1
  | .slice elems spare => uptoBulkAll elems + uptoBulkAll spare + 1
  | .agg parts => uptoBulkAll parts + 1
  | .iface _ d => uptoBulk d + 1
  | .map entries => uptoBulkEntries entries + 1
  | .held _ => 1
def uptoBulkAll {H : Type} : List (DataW H) → Nat
  | [] => 0
  | d :: r => uptoBulk d + uptoBulkAll r
def uptoBulkEntries {H : Type} : List (Lit × DataW H) → Nat
  | [] => 0
  | x :: r => uptoBulkEntry x + uptoBulkEntries r
def uptoBulkEntry {H : Type} : Lit × DataW H → Nat
  | (.string bytes, d) => bytes.length + uptoBulk d + 1
  | (_, d) => uptoBulk d + 1
 end
def uptoSmall : (H : Type) → List (DataW H) → Bool := fun _ ds => decide (uptoBulkAll ds ≤ 1048576)
def OpenSpec.upto (s : _root_.Go.ChangeSpec) : _root_.Go.OpenSpec := { _root_.Go.OpenSpec.ofChange s with cond := some uptoSmall }

/-- 'helmsmanlaw1.PlansMatchSpec', WHERE WHAT IT READS IS OF BULK AT MOST 1048576: true; the input reads as it did. -/
def plansMatchSpecUptoRow : OpenClaim := { program := "ytkflidnclndpkaadoor", sum := "a269c6f69a0d59aab7081b37eab376ce70f9485a445374d3a4c54a01f7b5276c", func := "helmsman/helmsmanlaw1.PlansMatchSpec", spec := "plansMatchSpec", unfollowed := true, recurses := true, named := ["math/bits.deBruijn64tab"], apart := false, laid := [("math/bits.deBruijn64tab", laid_math_bits_deBruijn64tab)], narrowed := true }
def PlansMatchSpecUptoSaid : Prop := plansMatchSpecUptoRow.holds Tryd.pinned (OpenSpec.upto plansMatchSpecSpec)

/-- 'helmsmanlaw1.PlansMinimalMatchesSpec', WHERE WHAT IT READS IS OF BULK AT MOST 1048576: true; the input reads as it did. -/
def plansMinimalMatchesSpecUptoRow : OpenClaim := { program := "ytkflidnclndpkaadoor", sum := "a269c6f69a0d59aab7081b37eab376ce70f9485a445374d3a4c54a01f7b5276c", func := "helmsman/helmsmanlaw1.PlansMinimalMatchesSpec", spec := "plansMinimalMatchesSpec", unfollowed := true, recurses := true, named := ["math/bits.deBruijn64tab"], apart := false, laid := [("math/bits.deBruijn64tab", laid_math_bits_deBruijn64tab)], narrowed := true }
def PlansMinimalMatchesSpecUptoSaid : Prop := plansMinimalMatchesSpecUptoRow.holds Tryd.pinned (OpenSpec.upto plansMinimalMatchesSpecSpec)

/-- 'helmsmanlaw1.PlansReducedAreSolutions', WHERE WHAT IT READS IS OF BULK AT MOST 1048576: true; the input reads as it did. -/
def plansReducedAreSolutionsUptoRow : OpenClaim := { program := "ytkflidnclndpkaadoor", sum := "a269c6f69a0d59aab7081b37eab376ce70f9485a445374d3a4c54a01f7b5276c", func := "helmsman/helmsmanlaw1.PlansReducedAreSolutions", spec := "plansReducedAreSolutions", unfollowed := true, recurses := true, named := ["math/bits.deBruijn64tab"], apart := false, laid := [("math/bits.deBruijn64tab", laid_math_bits_deBruijn64tab)], narrowed := true }
def PlansReducedAreSolutionsUptoSaid : Prop := plansReducedAreSolutionsUptoRow.holds Tryd.pinned (OpenSpec.upto plansReducedAreSolutionsSpec)

/-- 'helmsmanlaw1.PlansMinimalStayWhole', WHERE WHAT IT READS IS OF BULK AT MOST 1048576: true; the input reads as it did. -/
def plansMinimalStayWholeUptoRow : OpenClaim := { program := "ytkflidnclndpkaadoor", sum := "a269c6f69a0d59aab7081b37eab376ce70f9485a445374d3a4c54a01f7b5276c", func := "helmsman/helmsmanlaw1.PlansMinimalStayWhole", spec := "plansMinimalStayWhole", unfollowed := true, recurses := true, named := ["math/bits.deBruijn64tab"], apart := false, laid := [("math/bits.deBruijn64tab", laid_math_bits_deBruijn64tab)], narrowed := true }
def PlansMinimalStayWholeUptoSaid : Prop := plansMinimalStayWholeUptoRow.holds Tryd.pinned (OpenSpec.upto plansMinimalStayWholeSpec)

/-- 'helmsmanlaw1.PlansFailuresAreReal', WHERE WHAT IT READS IS OF BULK AT MOST 1048576: true; the input reads as it did. -/
def plansFailuresAreRealUptoRow : OpenClaim := { program := "ytkflidnclndpkaadoor", sum := "a269c6f69a0d59aab7081b37eab376ce70f9485a445374d3a4c54a01f7b5276c", func := "helmsman/helmsmanlaw1.PlansFailuresAreReal", spec := "plansFailuresAreReal", unfollowed := true, recurses := true, named := ["math/bits.deBruijn64tab"], apart := false, laid := [("math/bits.deBruijn64tab", laid_math_bits_deBruijn64tab)], narrowed := true }
def PlansFailuresAreRealUptoSaid : Prop := plansFailuresAreRealUptoRow.holds Tryd.pinned (OpenSpec.upto plansFailuresAreRealSpec)

end Rows
end Go.Proofs.YtkflidnclndpkaaDoor
