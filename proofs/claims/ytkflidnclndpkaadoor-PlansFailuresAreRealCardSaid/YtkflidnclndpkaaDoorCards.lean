/-
  DERIVED. GIVEN WITH THE SEED: THE CARDS: each row of YtkflidnclndpkaaDoorRows.lean that lists a variable, with what it lists TIED to the program's text (the seventh form; the later family's looks); each row that meets fmt, with fmt's text TOLD by the authors' own Lean function (tested against real Go, not proved from fmt's source: count such statements apart). THE CARD IS WHAT COUNTS. Prove the row's statement (the work); the ties are given (YtkflidnclndpkaaDoorTie.lean); close each card by the builder's one call (the guide's Derived/Test/ToyasCard.lean, 'card_holds'). Laid BY PROGRAM, IN A SANDBOX (cutbox-door.mjs). By AI agents, Wed Nov 11 2026. No macro, syntax, notation, axiom, sorry.
-/
import Derived.Test.YtkflidnclndpkaaDoorRows
import GoSem.ClaimSeven
namespace Go.Proofs.YtkflidnclndpkaaDoor
namespace Rows

/-- THE TIED CARD OF 'helmsmanlaw1.PlansMatchSpec'. -/
def plansMatchSpecCard : Claim7 := { stood := { row := plansMatchSpecRow, standIns := [], harness := (true, "409eaa0227552d9c6d60a3cc0a4900f543766531861b754a2242945b473e9f4f"), looks := false }, kinds := [], alts := [], laidByText := true, laidKinds := [.data], laidTests := true, laidLooks := .later }
def PlansMatchSpecCardSaid : Prop := Claim7.holds Tryd.pinned (.plain (OpenSpec.ofChange plansMatchSpecSpec)) plansMatchSpecCard

/-- THE TIED CARD OF 'helmsmanlaw1.PlansMinimalMatchesSpec'. -/
def plansMinimalMatchesSpecCard : Claim7 := { stood := { row := plansMinimalMatchesSpecRow, standIns := [], harness := (true, "409eaa0227552d9c6d60a3cc0a4900f543766531861b754a2242945b473e9f4f"), looks := false }, kinds := [], alts := [], laidByText := true, laidKinds := [.data], laidTests := true, laidLooks := .later }
def PlansMinimalMatchesSpecCardSaid : Prop := Claim7.holds Tryd.pinned (.plain (OpenSpec.ofChange plansMinimalMatchesSpecSpec)) plansMinimalMatchesSpecCard

/-- THE TIED CARD OF 'helmsmanlaw1.PlansReducedAreSolutions'. -/
def plansReducedAreSolutionsCard : Claim7 := { stood := { row := plansReducedAreSolutionsRow, standIns := [], harness := (true, "409eaa0227552d9c6d60a3cc0a4900f543766531861b754a2242945b473e9f4f"), looks := false }, kinds := [], alts := [], laidByText := true, laidKinds := [.data], laidTests := true, laidLooks := .later }
def PlansReducedAreSolutionsCardSaid : Prop := Claim7.holds Tryd.pinned (.plain (OpenSpec.ofChange plansReducedAreSolutionsSpec)) plansReducedAreSolutionsCard

/-- THE TIED CARD OF 'helmsmanlaw1.PlansMinimalStayWhole'. -/
def plansMinimalStayWholeCard : Claim7 := { stood := { row := plansMinimalStayWholeRow, standIns := [], harness := (true, "409eaa0227552d9c6d60a3cc0a4900f543766531861b754a2242945b473e9f4f"), looks := false }, kinds := [], alts := [], laidByText := true, laidKinds := [.data], laidTests := true, laidLooks := .later }
def PlansMinimalStayWholeCardSaid : Prop := Claim7.holds Tryd.pinned (.plain (OpenSpec.ofChange plansMinimalStayWholeSpec)) plansMinimalStayWholeCard

/-- THE TIED CARD OF 'helmsmanlaw1.PlansFailuresAreReal'. -/
def plansFailuresAreRealCard : Claim7 := { stood := { row := plansFailuresAreRealRow, standIns := [], harness := (true, "409eaa0227552d9c6d60a3cc0a4900f543766531861b754a2242945b473e9f4f"), looks := false }, kinds := [], alts := [], laidByText := true, laidKinds := [.data], laidTests := true, laidLooks := .later }
def PlansFailuresAreRealCardSaid : Prop := Claim7.holds Tryd.pinned (.plain (OpenSpec.ofChange plansFailuresAreRealSpec)) plansFailuresAreRealCard

/-- THE SECOND FORM's CARD OF 'helmsmanlaw1.PlansMatchSpec'. -/
def plansMatchSpecUptoCard : Claim7 := { stood := { row := plansMatchSpecUptoRow, standIns := [], harness := (true, "409eaa0227552d9c6d60a3cc0a4900f543766531861b754a2242945b473e9f4f"), looks := false }, kinds := [], alts := [], laidByText := true, laidKinds := [.data], laidTests := true, laidLooks := .later }
def PlansMatchSpecUptoCardSaid : Prop := Claim7.holds Tryd.pinned (.plain (OpenSpec.upto plansMatchSpecSpec)) plansMatchSpecUptoCard

/-- THE SECOND FORM's CARD OF 'helmsmanlaw1.PlansMinimalMatchesSpec'. -/
def plansMinimalMatchesSpecUptoCard : Claim7 := { stood := { row := plansMinimalMatchesSpecUptoRow, standIns := [], harness := (true, "409eaa0227552d9c6d60a3cc0a4900f543766531861b754a2242945b473e9f4f"), looks := false }, kinds := [], alts := [], laidByText := true, laidKinds := [.data], laidTests := true, laidLooks := .later }
def PlansMinimalMatchesSpecUptoCardSaid : Prop := Claim7.holds Tryd.pinned (.plain (OpenSpec.upto plansMinimalMatchesSpecSpec)) plansMinimalMatchesSpecUptoCard

/-- THE SECOND FORM's CARD OF 'helmsmanlaw1.PlansReducedAreSolutions'. -/
def plansReducedAreSolutionsUptoCard : Claim7 := { stood := { row := plansReducedAreSolutionsUptoRow, standIns := [], harness := (true, "409eaa0227552d9c6d60a3cc0a4900f543766531861b754a2242945b473e9f4f"), looks := false }, kinds := [], alts := [], laidByText := true, laidKinds := [.data], laidTests := true, laidLooks := .later }
def PlansReducedAreSolutionsUptoCardSaid : Prop := Claim7.holds Tryd.pinned (.plain (OpenSpec.upto plansReducedAreSolutionsSpec)) plansReducedAreSolutionsUptoCard

/-- THE SECOND FORM's CARD OF 'helmsmanlaw1.PlansMinimalStayWhole'. -/
def plansMinimalStayWholeUptoCard : Claim7 := { stood := { row := plansMinimalStayWholeUptoRow, standIns := [], harness := (true, "409eaa0227552d9c6d60a3cc0a4900f543766531861b754a2242945b473e9f4f"), looks := false }, kinds := [], alts := [], laidByText := true, laidKinds := [.data], laidTests := true, laidLooks := .later }
def PlansMinimalStayWholeUptoCardSaid : Prop := Claim7.holds Tryd.pinned (.plain (OpenSpec.upto plansMinimalStayWholeSpec)) plansMinimalStayWholeUptoCard

/-- THE SECOND FORM's CARD OF 'helmsmanlaw1.PlansFailuresAreReal'. -/
def plansFailuresAreRealUptoCard : Claim7 := { stood := { row := plansFailuresAreRealUptoRow, standIns := [], harness := (true, "409eaa0227552d9c6d60a3cc0a4900f543766531861b754a2242945b473e9f4f"), looks := false }, kinds := [], alts := [], laidByText := true, laidKinds := [.data], laidTests := true, laidLooks := .later }
def PlansFailuresAreRealUptoCardSaid : Prop := Claim7.holds Tryd.pinned (.plain (OpenSpec.upto plansFailuresAreRealSpec)) plansFailuresAreRealUptoCard
end Rows
end Go.Proofs.YtkflidnclndpkaaDoor
