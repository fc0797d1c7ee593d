/-
  DERIVED. GIVEN WITH THE SEED: THE CARDS: each row of YtmaokbdjahgkiaaGreatDoorRows.lean that lists a variable, with what it lists TIED to the program's text (the seventh form; the later family's looks); each row that meets fmt, with fmt's text TOLD by the authors' own Lean function (tested against real Go, not proved from fmt's source: count such statements apart). THE CARD IS WHAT COUNTS. Prove the row's statement (the work); the ties are given (YtmaokbdjahgkiaaGreatDoorTie.lean); close each card by the builder's one call (the guide's Derived/Test/ToyasCard.lean, 'card_holds'). Laid BY PROGRAM, IN A SANDBOX (cutbox-door.mjs). By AI agents, Wed Nov 11 2026. No macro, syntax, notation, axiom, sorry.
-/
import Derived.Test.YtmaokbdjahgkiaaGreatDoorRows
import GoSem.ClaimSeven
namespace Go.Proofs.YtmaokbdjahgkiaaGreatDoor
namespace Rows

/-- THE TIED CARD OF 'maskkeep1.BitsRefined'. -/
def bitsRefinedCard : Claim7 := { stood := { row := bitsRefinedRow, standIns := [], harness := (true, "005f4b24dc68e25e9d15e8d6c0d7883a2bc52f9187d5bbe0fa109b1ccd395beb"), looks := true }, kinds := [], alts := [], laidByText := true, laidKinds := [.data, .data, .data, .sentinel, .sentinel], laidTests := true, laidLooks := .later }
def BitsRefinedCardSaid : Prop := Claim7.holds Tryz.pinned (.plain (OpenSpec.ofChange bitsRefinedSpec)) bitsRefinedCard

/-- THE SECOND FORM's CARD OF 'maskkeep1.BitsRefined'. -/
def bitsRefinedUptoCard : Claim7 := { stood := { row := bitsRefinedUptoRow, standIns := [], harness := (true, "005f4b24dc68e25e9d15e8d6c0d7883a2bc52f9187d5bbe0fa109b1ccd395beb"), looks := true }, kinds := [], alts := [], laidByText := true, laidKinds := [.data, .data, .data, .sentinel, .sentinel], laidTests := true, laidLooks := .later }
def BitsRefinedUptoCardSaid : Prop := Claim7.holds Tryz.pinned (.plain (OpenSpec.upto bitsRefinedSpec)) bitsRefinedUptoCard
end Rows
end Go.Proofs.YtmaokbdjahgkiaaGreatDoor
