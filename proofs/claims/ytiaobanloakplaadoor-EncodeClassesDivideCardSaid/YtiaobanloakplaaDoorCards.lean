/-
  DERIVED. GIVEN WITH THE SEED: THE CARDS: each row of YtiaobanloakplaaDoorRows.lean that lists a variable, with what it lists TIED to the program's text (the seventh form; the later family's looks); each row that meets fmt, with fmt's text TOLD by the authors' own Lean function (tested against real Go, not proved from fmt's source: count such statements apart). THE CARD IS WHAT COUNTS. Prove the row's statement (the work); the ties are given (YtiaobanloakplaaDoorTie.lean); close each card by the builder's one call (the guide's Derived/Test/ToyasCard.lean, 'card_holds'). Laid BY PROGRAM, IN A SANDBOX (cutbox-door.mjs). By AI agents, Wed Nov 11 2026. No macro, syntax, notation, axiom, sorry.
-/
import Derived.Test.YtiaobanloakplaaDoorRows
import GoSem.ClaimSeven
namespace Go.Proofs.YtiaobanloakplaaDoor
namespace Rows

/-- THE TIED CARD OF 'helmsmanlaw2.EncodeMatchesSpec'. -/
def encodeMatchesSpecCard : Claim7 := { stood := { row := encodeMatchesSpecRow, standIns := [], harness := (true, "96caa7ba87d4042ccdbb0842a361dcb34cf8fcd15690ffbb5d31255af246c5c9"), looks := false }, kinds := [], alts := [], laidByText := true, laidKinds := [.data], laidTests := true, laidLooks := .later }
def EncodeMatchesSpecCardSaid : Prop := Claim7.holds Tryd.pinned (.plain (OpenSpec.ofChange encodeMatchesSpecSpec)) encodeMatchesSpecCard

/-- THE TIED CARD OF 'helmsmanlaw2.EncodeStateMatchesSpec'. -/
def encodeStateMatchesSpecCard : Claim7 := { stood := { row := encodeStateMatchesSpecRow, standIns := [], harness := (true, "96caa7ba87d4042ccdbb0842a361dcb34cf8fcd15690ffbb5d31255af246c5c9"), looks := false }, kinds := [], alts := [], laidByText := true, laidKinds := [.data], laidTests := true, laidLooks := .later }
def EncodeStateMatchesSpecCardSaid : Prop := Claim7.holds Tryd.pinned (.plain (OpenSpec.ofChange encodeStateMatchesSpecSpec)) encodeStateMatchesSpecCard

/-- THE TIED CARD OF 'helmsmanlaw2.EncodePlansAreKept'. -/
def encodePlansAreKeptCard : Claim7 := { stood := { row := encodePlansAreKeptRow, standIns := [], harness := (true, "96caa7ba87d4042ccdbb0842a361dcb34cf8fcd15690ffbb5d31255af246c5c9"), looks := false }, kinds := [], alts := [], laidByText := true, laidKinds := [.data], laidTests := true, laidLooks := .later }
def EncodePlansAreKeptCardSaid : Prop := Claim7.holds Tryd.pinned (.plain (OpenSpec.ofChange encodePlansAreKeptSpec)) encodePlansAreKeptCard

/-- THE TIED CARD OF 'helmsmanlaw2.EncodeFindsEveryStep'. -/
def encodeFindsEveryStepCard : Claim7 := { stood := { row := encodeFindsEveryStepRow, standIns := [], harness := (true, "96caa7ba87d4042ccdbb0842a361dcb34cf8fcd15690ffbb5d31255af246c5c9"), looks := false }, kinds := [], alts := [], laidByText := true, laidKinds := [.data], laidTests := true, laidLooks := .later }
def EncodeFindsEveryStepCardSaid : Prop := Claim7.holds Tryd.pinned (.plain (OpenSpec.ofChange encodeFindsEveryStepSpec)) encodeFindsEveryStepCard

/-- THE TIED CARD OF 'helmsmanlaw2.EncodeClassesDivide'. -/
def encodeClassesDivideCard : Claim7 := { stood := { row := encodeClassesDivideRow, standIns := [], harness := (true, "96caa7ba87d4042ccdbb0842a361dcb34cf8fcd15690ffbb5d31255af246c5c9"), looks := false }, kinds := [], alts := [], laidByText := true, laidKinds := [.data], laidTests := true, laidLooks := .later }
def EncodeClassesDivideCardSaid : Prop := Claim7.holds Tryd.pinned (.plain (OpenSpec.ofChange encodeClassesDivideSpec)) encodeClassesDivideCard

/-- THE SECOND FORM's CARD OF 'helmsmanlaw2.EncodeMatchesSpec'. -/
def encodeMatchesSpecUptoCard : Claim7 := { stood := { row := encodeMatchesSpecUptoRow, standIns := [], harness := (true, "96caa7ba87d4042ccdbb0842a361dcb34cf8fcd15690ffbb5d31255af246c5c9"), looks := false }, kinds := [], alts := [], laidByText := true, laidKinds := [.data], laidTests := true, laidLooks := .later }
def EncodeMatchesSpecUptoCardSaid : Prop := Claim7.holds Tryd.pinned (.plain (OpenSpec.upto encodeMatchesSpecSpec)) encodeMatchesSpecUptoCard

/-- THE SECOND FORM's CARD OF 'helmsmanlaw2.EncodeStateMatchesSpec'. -/
def encodeStateMatchesSpecUptoCard : Claim7 := { stood := { row := encodeStateMatchesSpecUptoRow, standIns := [], harness := (true, "96caa7ba87d4042ccdbb0842a361dcb34cf8fcd15690ffbb5d31255af246c5c9"), looks := false }, kinds := [], alts := [], laidByText := true, laidKinds := [.data], laidTests := true, laidLooks := .later }
def EncodeStateMatchesSpecUptoCardSaid : Prop := Claim7.holds Tryd.pinned (.plain (OpenSpec.upto encodeStateMatchesSpecSpec)) encodeStateMatchesSpecUptoCard

/-- THE SECOND FORM's CARD OF 'helmsmanlaw2.EncodePlansAreKept'. -/
def encodePlansAreKeptUptoCard : Claim7 := { stood := { row := encodePlansAreKeptUptoRow, standIns := [], harness := (true, "96caa7ba87d4042ccdbb0842a361dcb34cf8fcd15690ffbb5d31255af246c5c9"), looks := false }, kinds := [], alts := [], laidByText := true, laidKinds := [.data], laidTests := true, laidLooks := .later }
def EncodePlansAreKeptUptoCardSaid : Prop := Claim7.holds Tryd.pinned (.plain (OpenSpec.upto encodePlansAreKeptSpec)) encodePlansAreKeptUptoCard

/-- THE SECOND FORM's CARD OF 'helmsmanlaw2.EncodeFindsEveryStep'. -/
def encodeFindsEveryStepUptoCard : Claim7 := { stood := { row := encodeFindsEveryStepUptoRow, standIns := [], harness := (true, "96caa7ba87d4042ccdbb0842a361dcb34cf8fcd15690ffbb5d31255af246c5c9"), looks := false }, kinds := [], alts := [], laidByText := true, laidKinds := [.data], laidTests := true, laidLooks := .later }
def EncodeFindsEveryStepUptoCardSaid : Prop := Claim7.holds Tryd.pinned (.plain (OpenSpec.upto encodeFindsEveryStepSpec)) encodeFindsEveryStepUptoCard

/-- THE SECOND FORM's CARD OF 'helmsmanlaw2.EncodeClassesDivide'. -/
def encodeClassesDivideUptoCard : Claim7 := { stood := { row := encodeClassesDivideUptoRow, standIns := [], harness := (true, "96caa7ba87d4042ccdbb0842a361dcb34cf8fcd15690ffbb5d31255af246c5c9"), looks := false }, kinds := [], alts := [], laidByText := true, laidKinds := [.data], laidTests := true, laidLooks := .later }
def EncodeClassesDivideUptoCardSaid : Prop := Claim7.holds Tryd.pinned (.plain (OpenSpec.upto encodeClassesDivideSpec)) encodeClassesDivideUptoCard
end Rows
end Go.Proofs.YtiaobanloakplaaDoor
