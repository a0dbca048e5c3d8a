/-
  DERIVED. GIVEN WITH THE SEED: THE CARDS: each row of YthlafcmabeiagaaDoorRows.lean that lists a variable, with what it lists TIED to the program's text (the seventh form; the later family's looks); each row that meets fmt, with fmt's text TOLD by the authors' own Lean function (tested against real Go, not proved from fmt's source: count such statements apart). THE CARD IS WHAT COUNTS. Prove the row's statement (the work); the ties are given (YthlafcmabeiagaaDoorTie.lean); close each card by the builder's one call (the guide's Derived/Test/ToyasCard.lean, 'card_holds'). Laid BY PROGRAM, IN A SANDBOX (cutbox-door.mjs). By AI agents, Wed Nov 11 2026. No macro, syntax, notation, axiom, sorry.
-/
import Derived.Test.YthlafcmabeiagaaDoorRows
import GoSem.ClaimSeven
namespace Go.Proofs.YthlafcmabeiagaaDoor
namespace Rows

/-- THE TIED CARD OF 'helmsmanlaw1.MultiStatesHaveOneValue'. -/
def multiStatesHaveOneValueCard : Claim7 := { stood := { row := multiStatesHaveOneValueRow, standIns := [], harness := (true, "8cc0bfc4ba3d29c1b3d1d2c96bc22497e61509b8c690545d5012980b7d85576a"), looks := false }, kinds := [], alts := [], laidByText := true, laidKinds := [.data], laidTests := true, laidLooks := .later }
def MultiStatesHaveOneValueCardSaid : Prop := Claim7.holds Tryd.pinned (.plain (OpenSpec.ofChange multiStatesHaveOneValueSpec)) multiStatesHaveOneValueCard

/-- THE SECOND FORM's CARD OF 'helmsmanlaw1.MultiStatesHaveOneValue'. -/
def multiStatesHaveOneValueUptoCard : Claim7 := { stood := { row := multiStatesHaveOneValueUptoRow, standIns := [], harness := (true, "8cc0bfc4ba3d29c1b3d1d2c96bc22497e61509b8c690545d5012980b7d85576a"), looks := false }, kinds := [], alts := [], laidByText := true, laidKinds := [.data], laidTests := true, laidLooks := .later }
def MultiStatesHaveOneValueUptoCardSaid : Prop := Claim7.holds Tryd.pinned (.plain (OpenSpec.upto multiStatesHaveOneValueSpec)) multiStatesHaveOneValueUptoCard
end Rows
end Go.Proofs.YthlafcmabeiagaaDoor
