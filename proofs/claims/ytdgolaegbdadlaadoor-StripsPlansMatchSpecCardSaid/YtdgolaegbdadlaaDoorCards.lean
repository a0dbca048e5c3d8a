/-
  DERIVED. GIVEN WITH THE SEED: THE CARDS: each row of YtdgolaegbdadlaaDoorRows.lean that lists a variable, with what it lists TIED to the program's text (the seventh form; the later family's looks); each row that meets fmt, with fmt's text TOLD by the authors' own Lean function (tested against real Go, not proved from fmt's source: count such statements apart). THE CARD IS WHAT COUNTS. Prove the row's statement (the work); the ties are given (YtdgolaegbdadlaaDoorTie.lean); close each card by the builder's one call (the guide's Derived/Test/ToyasCard.lean, 'card_holds'). Laid BY PROGRAM, IN A SANDBOX (cutbox-door.mjs). By AI agents, Wed Nov 11 2026. No macro, syntax, notation, axiom, sorry.
-/
import Derived.Test.YtdgolaegbdadlaaDoorRows
import GoSem.ClaimSeven
namespace Go.Proofs.YtdgolaegbdadlaaDoor
namespace Rows

/-- THE TIED CARD OF 'helmsmanlaw1.StripsMatchesSpec'. -/
def stripsMatchesSpecCard : Claim7 := { stood := { row := stripsMatchesSpecRow, standIns := [], harness := (true, "4a4cdddca1b537c48ff0e85c0c89f7f3e2c0f2257618e1bb9a45b2c5c19621b2"), looks := false }, kinds := [], alts := [], laidByText := true, laidKinds := [.data], laidTests := true, laidLooks := .later }
def StripsMatchesSpecCardSaid : Prop := Claim7.holds Tryd.pinned (.plain (OpenSpec.ofChange stripsMatchesSpecSpec)) stripsMatchesSpecCard

/-- THE TIED CARD OF 'helmsmanlaw1.StripsPlansMatchSpec'. -/
def stripsPlansMatchSpecCard : Claim7 := { stood := { row := stripsPlansMatchSpecRow, standIns := [], harness := (true, "4a4cdddca1b537c48ff0e85c0c89f7f3e2c0f2257618e1bb9a45b2c5c19621b2"), looks := false }, kinds := [], alts := [], laidByText := true, laidKinds := [.data], laidTests := true, laidLooks := .later }
def StripsPlansMatchSpecCardSaid : Prop := Claim7.holds Tryd.pinned (.plain (OpenSpec.ofChange stripsPlansMatchSpecSpec)) stripsPlansMatchSpecCard

/-- THE TIED CARD OF 'helmsmanlaw1.StripsFrame'. -/
def stripsFrameCard : Claim7 := { stood := { row := stripsFrameRow, standIns := [], harness := (true, "4a4cdddca1b537c48ff0e85c0c89f7f3e2c0f2257618e1bb9a45b2c5c19621b2"), looks := false }, kinds := [], alts := [], laidByText := true, laidKinds := [.data], laidTests := true, laidLooks := .later }
def StripsFrameCardSaid : Prop := Claim7.holds Tryd.pinned (.plain (OpenSpec.ofChange stripsFrameSpec)) stripsFrameCard

/-- THE TIED CARD OF 'helmsmanlaw1.StripsRegressionIsExact'. -/
def stripsRegressionIsExactCard : Claim7 := { stood := { row := stripsRegressionIsExactRow, standIns := [], harness := (true, "4a4cdddca1b537c48ff0e85c0c89f7f3e2c0f2257618e1bb9a45b2c5c19621b2"), looks := false }, kinds := [], alts := [], laidByText := true, laidKinds := [.data], laidTests := true, laidLooks := .later }
def StripsRegressionIsExactCardSaid : Prop := Claim7.holds Tryd.pinned (.plain (OpenSpec.ofChange stripsRegressionIsExactSpec)) stripsRegressionIsExactCard

/-- THE TIED CARD OF 'helmsmanlaw1.StripsPlansConcatenate'. -/
def stripsPlansConcatenateCard : Claim7 := { stood := { row := stripsPlansConcatenateRow, standIns := [], harness := (true, "4a4cdddca1b537c48ff0e85c0c89f7f3e2c0f2257618e1bb9a45b2c5c19621b2"), looks := false }, kinds := [], alts := [], laidByText := true, laidKinds := [.data], laidTests := true, laidLooks := .later }
def StripsPlansConcatenateCardSaid : Prop := Claim7.holds Tryd.pinned (.plain (OpenSpec.ofChange stripsPlansConcatenateSpec)) stripsPlansConcatenateCard

/-- THE TIED CARD OF 'helmsmanlaw1.StripsMoreFactsKeepPlans'. -/
def stripsMoreFactsKeepPlansCard : Claim7 := { stood := { row := stripsMoreFactsKeepPlansRow, standIns := [], harness := (true, "4a4cdddca1b537c48ff0e85c0c89f7f3e2c0f2257618e1bb9a45b2c5c19621b2"), looks := false }, kinds := [], alts := [], laidByText := true, laidKinds := [.data], laidTests := true, laidLooks := .later }
def StripsMoreFactsKeepPlansCardSaid : Prop := Claim7.holds Tryd.pinned (.plain (OpenSpec.ofChange stripsMoreFactsKeepPlansSpec)) stripsMoreFactsKeepPlansCard

/-- THE SECOND FORM's CARD OF 'helmsmanlaw1.StripsMatchesSpec'. -/
def stripsMatchesSpecUptoCard : Claim7 := { stood := { row := stripsMatchesSpecUptoRow, standIns := [], harness := (true, "4a4cdddca1b537c48ff0e85c0c89f7f3e2c0f2257618e1bb9a45b2c5c19621b2"), looks := false }, kinds := [], alts := [], laidByText := true, laidKinds := [.data], laidTests := true, laidLooks := .later }
def StripsMatchesSpecUptoCardSaid : Prop := Claim7.holds Tryd.pinned (.plain (OpenSpec.upto stripsMatchesSpecSpec)) stripsMatchesSpecUptoCard

/-- THE SECOND FORM's CARD OF 'helmsmanlaw1.StripsPlansMatchSpec'. -/
def stripsPlansMatchSpecUptoCard : Claim7 := { stood := { row := stripsPlansMatchSpecUptoRow, standIns := [], harness := (true, "4a4cdddca1b537c48ff0e85c0c89f7f3e2c0f2257618e1bb9a45b2c5c19621b2"), looks := false }, kinds := [], alts := [], laidByText := true, laidKinds := [.data], laidTests := true, laidLooks := .later }
def StripsPlansMatchSpecUptoCardSaid : Prop := Claim7.holds Tryd.pinned (.plain (OpenSpec.upto stripsPlansMatchSpecSpec)) stripsPlansMatchSpecUptoCard

/-- THE SECOND FORM's CARD OF 'helmsmanlaw1.StripsFrame'. -/
def stripsFrameUptoCard : Claim7 := { stood := { row := stripsFrameUptoRow, standIns := [], harness := (true, "4a4cdddca1b537c48ff0e85c0c89f7f3e2c0f2257618e1bb9a45b2c5c19621b2"), looks := false }, kinds := [], alts := [], laidByText := true, laidKinds := [.data], laidTests := true, laidLooks := .later }
def StripsFrameUptoCardSaid : Prop := Claim7.holds Tryd.pinned (.plain (OpenSpec.upto stripsFrameSpec)) stripsFrameUptoCard

/-- THE SECOND FORM's CARD OF 'helmsmanlaw1.StripsRegressionIsExact'. -/
def stripsRegressionIsExactUptoCard : Claim7 := { stood := { row := stripsRegressionIsExactUptoRow, standIns := [], harness := (true, "4a4cdddca1b537c48ff0e85c0c89f7f3e2c0f2257618e1bb9a45b2c5c19621b2"), looks := false }, kinds := [], alts := [], laidByText := true, laidKinds := [.data], laidTests := true, laidLooks := .later }
def StripsRegressionIsExactUptoCardSaid : Prop := Claim7.holds Tryd.pinned (.plain (OpenSpec.upto stripsRegressionIsExactSpec)) stripsRegressionIsExactUptoCard

/-- THE SECOND FORM's CARD OF 'helmsmanlaw1.StripsPlansConcatenate'. -/
def stripsPlansConcatenateUptoCard : Claim7 := { stood := { row := stripsPlansConcatenateUptoRow, standIns := [], harness := (true, "4a4cdddca1b537c48ff0e85c0c89f7f3e2c0f2257618e1bb9a45b2c5c19621b2"), looks := false }, kinds := [], alts := [], laidByText := true, laidKinds := [.data], laidTests := true, laidLooks := .later }
def StripsPlansConcatenateUptoCardSaid : Prop := Claim7.holds Tryd.pinned (.plain (OpenSpec.upto stripsPlansConcatenateSpec)) stripsPlansConcatenateUptoCard

/-- THE SECOND FORM's CARD OF 'helmsmanlaw1.StripsMoreFactsKeepPlans'. -/
def stripsMoreFactsKeepPlansUptoCard : Claim7 := { stood := { row := stripsMoreFactsKeepPlansUptoRow, standIns := [], harness := (true, "4a4cdddca1b537c48ff0e85c0c89f7f3e2c0f2257618e1bb9a45b2c5c19621b2"), looks := false }, kinds := [], alts := [], laidByText := true, laidKinds := [.data], laidTests := true, laidLooks := .later }
def StripsMoreFactsKeepPlansUptoCardSaid : Prop := Claim7.holds Tryd.pinned (.plain (OpenSpec.upto stripsMoreFactsKeepPlansSpec)) stripsMoreFactsKeepPlansUptoCard
end Rows
end Go.Proofs.YtdgolaegbdadlaaDoor
