/-
  DERIVED. GIVEN WITH THE SEED: THE CARDS: each row of YtenmegkokclolaaDoorRows.lean that lists a variable, with what it lists TIED to the program's text (the seventh form; the later family's looks); each row that meets fmt, with fmt's text TOLD by the authors' own Lean function (tested against real Go, not proved from fmt's source: count such statements apart). THE CARD IS WHAT COUNTS. Prove the row's statement (the work); the ties are given (YtenmegkokclolaaDoorTie.lean); close each card by the builder's one call (the guide's Derived/Test/ToyasCard.lean, 'card_holds'). Laid BY PROGRAM, IN A SANDBOX (cutbox-door.mjs). By AI agents, Wed Nov 11 2026. No macro, syntax, notation, axiom, sorry.
-/
import Derived.Test.YtenmegkokclolaaDoorRows
import GoSem.ClaimSeven
namespace Go.Proofs.YtenmegkokclolaaDoor
namespace Rows

/-- THE TIED CARD OF 'helmsmanlaw2.InvariantMatchesSpec'. -/
def invariantMatchesSpecCard : Claim7 := { stood := { row := invariantMatchesSpecRow, standIns := [], harness := (true, "3f86832a42c6d28230040bc068148a48fcdc9d3279e23f0dd4cdbaf5664e7ec4"), looks := false }, kinds := [], alts := [], laidByText := true, laidKinds := [.data], laidTests := true, laidLooks := .later }
def InvariantMatchesSpecCardSaid : Prop := Claim7.holds Tryd.pinned (.plain (OpenSpec.ofChange invariantMatchesSpecSpec)) invariantMatchesSpecCard

/-- THE TIED CARD OF 'helmsmanlaw2.InvariantHolds'. -/
def invariantHoldsCard : Claim7 := { stood := { row := invariantHoldsRow, standIns := [], harness := (true, "3f86832a42c6d28230040bc068148a48fcdc9d3279e23f0dd4cdbaf5664e7ec4"), looks := false }, kinds := [], alts := [], laidByText := true, laidKinds := [.data], laidTests := true, laidLooks := .later }
def InvariantHoldsCardSaid : Prop := Claim7.holds Tryd.pinned (.plain (OpenSpec.ofChange invariantHoldsSpec)) invariantHoldsCard

/-- THE TIED CARD OF 'helmsmanlaw2.InvariantFoundAreLargest'. -/
def invariantFoundAreLargestCard : Claim7 := { stood := { row := invariantFoundAreLargestRow, standIns := [], harness := (true, "3f86832a42c6d28230040bc068148a48fcdc9d3279e23f0dd4cdbaf5664e7ec4"), looks := false }, kinds := [], alts := [], laidByText := true, laidKinds := [.data], laidTests := true, laidLooks := .later }
def InvariantFoundAreLargestCardSaid : Prop := Claim7.holds Tryd.pinned (.plain (OpenSpec.ofChange invariantFoundAreLargestSpec)) invariantFoundAreLargestCard

/-- THE TIED CARD OF 'helmsmanlaw2.InvariantOfVariables'. -/
def invariantOfVariablesCard : Claim7 := { stood := { row := invariantOfVariablesRow, standIns := [], harness := (true, "3f86832a42c6d28230040bc068148a48fcdc9d3279e23f0dd4cdbaf5664e7ec4"), looks := false }, kinds := [], alts := [], laidByText := true, laidKinds := [.data], laidTests := true, laidLooks := .later }
def InvariantOfVariablesCardSaid : Prop := Claim7.holds Tryd.pinned (.plain (OpenSpec.ofChange invariantOfVariablesSpec)) invariantOfVariablesCard

/-- THE SECOND FORM's CARD OF 'helmsmanlaw2.InvariantMatchesSpec'. -/
def invariantMatchesSpecUptoCard : Claim7 := { stood := { row := invariantMatchesSpecUptoRow, standIns := [], harness := (true, "3f86832a42c6d28230040bc068148a48fcdc9d3279e23f0dd4cdbaf5664e7ec4"), looks := false }, kinds := [], alts := [], laidByText := true, laidKinds := [.data], laidTests := true, laidLooks := .later }
def InvariantMatchesSpecUptoCardSaid : Prop := Claim7.holds Tryd.pinned (.plain (OpenSpec.upto invariantMatchesSpecSpec)) invariantMatchesSpecUptoCard

/-- THE SECOND FORM's CARD OF 'helmsmanlaw2.InvariantHolds'. -/
def invariantHoldsUptoCard : Claim7 := { stood := { row := invariantHoldsUptoRow, standIns := [], harness := (true, "3f86832a42c6d28230040bc068148a48fcdc9d3279e23f0dd4cdbaf5664e7ec4"), looks := false }, kinds := [], alts := [], laidByText := true, laidKinds := [.data], laidTests := true, laidLooks := .later }
def InvariantHoldsUptoCardSaid : Prop := Claim7.holds Tryd.pinned (.plain (OpenSpec.upto invariantHoldsSpec)) invariantHoldsUptoCard

/-- THE SECOND FORM's CARD OF 'helmsmanlaw2.InvariantFoundAreLargest'. -/
def invariantFoundAreLargestUptoCard : Claim7 := { stood := { row := invariantFoundAreLargestUptoRow, standIns := [], harness := (true, "3f86832a42c6d28230040bc068148a48fcdc9d3279e23f0dd4cdbaf5664e7ec4"), looks := false }, kinds := [], alts := [], laidByText := true, laidKinds := [.data], laidTests := true, laidLooks := .later }
def InvariantFoundAreLargestUptoCardSaid : Prop := Claim7.holds Tryd.pinned (.plain (OpenSpec.upto invariantFoundAreLargestSpec)) invariantFoundAreLargestUptoCard

/-- THE SECOND FORM's CARD OF 'helmsmanlaw2.InvariantOfVariables'. -/
def invariantOfVariablesUptoCard : Claim7 := { stood := { row := invariantOfVariablesUptoRow, standIns := [], harness := (true, "3f86832a42c6d28230040bc068148a48fcdc9d3279e23f0dd4cdbaf5664e7ec4"), looks := false }, kinds := [], alts := [], laidByText := true, laidKinds := [.data], laidTests := true, laidLooks := .later }
def InvariantOfVariablesUptoCardSaid : Prop := Claim7.holds Tryd.pinned (.plain (OpenSpec.upto invariantOfVariablesSpec)) invariantOfVariablesUptoCard
end Rows
end Go.Proofs.YtenmegkokclolaaDoor
