/-
  No cell of these rows narrows 'for every input' (looked for: loops, veiled, ifaces, maps, wideKeys, modest, calm, conditions, laid).
  DERIVED. THE GIVEN ROWS OF THIS SEAT. 4 by the template 'for every input the law returns true; each argument reads behind the call as it read before'; 0 by the template 'total and deterministic' (their statements: YtjmkilmpfaapbaaTotals.lean).
  GIVEN WITH THE SEED: the statements are not yours to turn. If you find one false, say at which input.
  Laid BY PROGRAM, IN A SANDBOX (cutbox-rows.mjs): the forced cells as the released guide's own fill.sh prints them over the translation 01fb8ec91dffe430… (all of the seat's roots in one cut). By AI agents, Wed Nov 11 2026. No macro, syntax, notation, axiom, sorry.
-/
import Derived.Test.YtjmkilmpfaapbaaChecked
import GoSem.Claim
import GoSem.ClaimJoined
import GoSem.ClaimMapViews
import Derived.JoinedTies
import Derived.KernelRfl
namespace Go.Proofs.Ytjmkilmpfaapbaa
/- THE CELL 'sum', in the pinned program and in every row, IS THE sha256 OF THE DUMP (.gsa) THAT YtjmkilmpfaapbaaProg.lean LOADS. Nothing in Lean hashes anything: it is a label: what it is worth is what the hold of that sum in a sandbox is worth. -/
noncomputable def Try.pinned : Pinned := { name := "ytjmkilmpfaapbaa", sum := "01fb8ec91dffe430e646f334103cfe5c87b3cf007b888ba8053678161b11169e", checked := Try.checked }
namespace Rows
def none {H : Type} : Left H := { results := [], args := [] }

/-- 'helmsmanlaw1.TypesMatchSpec': WHATEVER THE INPUT: true; the input reads as it did. -/
def typesMatchSpecSpec : ChangeSpec := { name := "typesMatchSpec", fn := fun _ => fun
  | [d1, d2, d3, d4] => { results := [.lit (.bool true)], args := [d1, d2, d3, d4] }
  | _ => none }
def typesMatchSpecRow : OpenClaim := { program := "ytjmkilmpfaapbaa", sum := "01fb8ec91dffe430e646f334103cfe5c87b3cf007b888ba8053678161b11169e", func := "helmsman/helmsmanlaw1.TypesMatchSpec", spec := "typesMatchSpec", unfollowed := true, recurses := true, apart := false }
def TypesMatchSpecSaid : Prop := typesMatchSpecRow.holds Try.pinned (OpenSpec.ofChange typesMatchSpecSpec)

/-- ITS FALSE NEIGHBOUR: 'it returns false'. Refute it at one input. -/
def typesMatchSpecWrong : ChangeSpec := { name := "typesMatchSpec", fn := fun _ => fun
  | [d1, d2, d3, d4] => { results := [.lit (.bool false)], args := [d1, d2, d3, d4] }
  | _ => none }
def TypesMatchSpecWrongFalsely : Prop := typesMatchSpecRow.holds Try.pinned (OpenSpec.ofChange typesMatchSpecWrong)

/-- 'helmsmanlaw1.TypesAreOrdered': WHATEVER THE INPUT: true; the input reads as it did. -/
def typesAreOrderedSpec : ChangeSpec := { name := "typesAreOrdered", fn := fun _ => fun
  | [d1, d2, d3, d4] => { results := [.lit (.bool true)], args := [d1, d2, d3, d4] }
  | _ => none }
def typesAreOrderedRow : OpenClaim := { program := "ytjmkilmpfaapbaa", sum := "01fb8ec91dffe430e646f334103cfe5c87b3cf007b888ba8053678161b11169e", func := "helmsman/helmsmanlaw1.TypesAreOrdered", spec := "typesAreOrdered", unfollowed := true, recurses := true, apart := false }
def TypesAreOrderedSaid : Prop := typesAreOrderedRow.holds Try.pinned (OpenSpec.ofChange typesAreOrderedSpec)

/-- ITS FALSE NEIGHBOUR: 'it returns false'. Refute it at one input. -/
def typesAreOrderedWrong : ChangeSpec := { name := "typesAreOrdered", fn := fun _ => fun
  | [d1, d2, d3, d4] => { results := [.lit (.bool false)], args := [d1, d2, d3, d4] }
  | _ => none }
def TypesAreOrderedWrongFalsely : Prop := typesAreOrderedRow.holds Try.pinned (OpenSpec.ofChange typesAreOrderedWrong)

/-- 'helmsmanlaw1.TypesJoinIsLeast': WHATEVER THE INPUT: true; the input reads as it did. -/
def typesJoinIsLeastSpec : ChangeSpec := { name := "typesJoinIsLeast", fn := fun _ => fun
  | [d1, d2, d3, d4] => { results := [.lit (.bool true)], args := [d1, d2, d3, d4] }
  | _ => none }
def typesJoinIsLeastRow : OpenClaim := { program := "ytjmkilmpfaapbaa", sum := "01fb8ec91dffe430e646f334103cfe5c87b3cf007b888ba8053678161b11169e", func := "helmsman/helmsmanlaw1.TypesJoinIsLeast", spec := "typesJoinIsLeast", unfollowed := true, recurses := true, apart := false }
def TypesJoinIsLeastSaid : Prop := typesJoinIsLeastRow.holds Try.pinned (OpenSpec.ofChange typesJoinIsLeastSpec)

/-- ITS FALSE NEIGHBOUR: 'it returns false'. Refute it at one input. -/
def typesJoinIsLeastWrong : ChangeSpec := { name := "typesJoinIsLeast", fn := fun _ => fun
  | [d1, d2, d3, d4] => { results := [.lit (.bool false)], args := [d1, d2, d3, d4] }
  | _ => none }
def TypesJoinIsLeastWrongFalsely : Prop := typesJoinIsLeastRow.holds Try.pinned (OpenSpec.ofChange typesJoinIsLeastWrong)

/-- 'helmsmanlaw1.TypesMembersAreInherited': WHATEVER THE INPUT: true; the input reads as it did. -/
def typesMembersAreInheritedSpec : ChangeSpec := { name := "typesMembersAreInherited", fn := fun _ => fun
  | [d1, d2, d3, d4] => { results := [.lit (.bool true)], args := [d1, d2, d3, d4] }
  | _ => none }
def typesMembersAreInheritedRow : OpenClaim := { program := "ytjmkilmpfaapbaa", sum := "01fb8ec91dffe430e646f334103cfe5c87b3cf007b888ba8053678161b11169e", func := "helmsman/helmsmanlaw1.TypesMembersAreInherited", spec := "typesMembersAreInherited", unfollowed := true, recurses := true, apart := false }
def TypesMembersAreInheritedSaid : Prop := typesMembersAreInheritedRow.holds Try.pinned (OpenSpec.ofChange typesMembersAreInheritedSpec)

/-- ITS FALSE NEIGHBOUR: 'it returns false'. Refute it at one input. -/
def typesMembersAreInheritedWrong : ChangeSpec := { name := "typesMembersAreInherited", fn := fun _ => fun
  | [d1, d2, d3, d4] => { results := [.lit (.bool false)], args := [d1, d2, d3, d4] }
  | _ => none }
def TypesMembersAreInheritedWrongFalsely : Prop := typesMembersAreInheritedRow.holds Try.pinned (OpenSpec.ofChange typesMembersAreInheritedWrong)

/- THE SECOND FORM. 'bulk': how many values and letters a reading holds, each counted each time it is reached (what is shared counts as often as it is met; a slice's spare places count too). A statement '..UptoSaid' is the law's where the arguments, and the package variables that the reading takes, are together of bulk at most 1048576: NARROWER than '..Said'. Prove '..Said' where nothing that the law and all that it calls make is longer than what came in: it says more and counts as full. Else prove '..UptoSaid'. A law counts once. -/
mutual
def uptoBulk {H : Type} : DataW H → Nat
  | .lit (.string bytes) => bytes.length + 1
  | .lit _ => 1
  | .nil => 1
  | .ptr d => uptoBulk d + 1
  | .slice elems spare => uptoBulkAll elems + uptoBulkAll spare + 1
  | .agg parts => uptoBulkAll parts + 1
  | .iface _ d => uptoBulk d + 1
  | .map entries => uptoBulkEntries entries + 1
  | .held _ => 1
def uptoBulkAll {H : Type} : List (DataW H) → Nat
  | [] => 0
  | d :: r => uptoBulk d + uptoBulkAll r
def uptoBulkEntries {H : Type} : List (Lit × DataW H) → Nat
  | [] => 0
  | x :: r => uptoBulkEntry x + uptoBulkEntries r
def uptoBulkEntry {H : Type} : Lit × DataW H → Nat
  | (.string bytes, d) => bytes.length + uptoBulk d + 1
  | (_, d) => uptoBulk d + 1
 end
def uptoSmall : (H : Type) → List (DataW H) → Bool := fun _ ds => decide (uptoBulkAll ds ≤ 1048576)
def OpenSpec.upto (s : _root_.Go.ChangeSpec) : _root_.Go.OpenSpec := { _root_.Go.OpenSpec.ofChange s with cond := some uptoSmall }

/-- 'helmsmanlaw1.TypesMatchSpec', WHERE WHAT IT READS IS OF BULK AT MOST 1048576: true; the input reads as it did. -/
def typesMatchSpecUptoRow : OpenClaim := { program := "ytjmkilmpfaapbaa", sum := "01fb8ec91dffe430e646f334103cfe5c87b3cf007b888ba8053678161b11169e", func := "helmsman/helmsmanlaw1.TypesMatchSpec", spec := "typesMatchSpec", unfollowed := true, recurses := true, apart := false, narrowed := true }
def TypesMatchSpecUptoSaid : Prop := typesMatchSpecUptoRow.holds Try.pinned (OpenSpec.upto typesMatchSpecSpec)

/-- 'helmsmanlaw1.TypesAreOrdered', WHERE WHAT IT READS IS OF BULK AT MOST 1048576: true; the input reads as it did. -/
def typesAreOrderedUptoRow : OpenClaim := { program := "ytjmkilmpfaapbaa", sum := "01fb8ec91dffe430e646f334103cfe5c87b3cf007b888ba8053678161b11169e", func := "helmsman/helmsmanlaw1.TypesAreOrdered", spec := "typesAreOrdered", unfollowed := true, recurses := true, apart := false, narrowed := true }
def TypesAreOrderedUptoSaid : Prop := typesAreOrderedUptoRow.holds Try.pinned (OpenSpec.upto typesAreOrderedSpec)

/-- 'helmsmanlaw1.TypesJoinIsLeast', WHERE WHAT IT READS IS OF BULK AT MOST 1048576: true; the input reads as it did. -/
def typesJoinIsLeastUptoRow : OpenClaim := { program := "ytjmkilmpfaapbaa", sum := "01fb8ec91dffe430e646f334103cfe5c87b3cf007b888ba8053678161b11169e", func := "helmsman/helmsmanlaw1.TypesJoinIsLeast", spec := "typesJoinIsLeast", unfollowed := true, recurses := true, apart := false, narrowed := true }
def TypesJoinIsLeastUptoSaid : Prop := typesJoinIsLeastUptoRow.holds Try.pinned (OpenSpec.upto typesJoinIsLeastSpec)

/-- 'helmsmanlaw1.TypesMembersAreInherited', WHERE WHAT IT READS IS OF BULK AT MOST 1048576: true; the input reads as it did. -/
def typesMembersAreInheritedUptoRow : OpenClaim := { program := "ytjmkilmpfaapbaa", sum := "01fb8ec91dffe430e646f334103cfe5c87b3cf007b888ba8053678161b11169e", func := "helmsman/helmsmanlaw1.TypesMembersAreInherited", spec := "typesMembersAreInherited", unfollowed := true, recurses := true, apart := false, narrowed := true }
def TypesMembersAreInheritedUptoSaid : Prop := typesMembersAreInheritedUptoRow.holds Try.pinned (OpenSpec.upto typesMembersAreInheritedSpec)

end Rows
end Go.Proofs.Ytjmkilmpfaapbaa
