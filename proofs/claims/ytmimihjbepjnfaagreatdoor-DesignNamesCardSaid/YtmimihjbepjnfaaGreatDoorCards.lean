/-
  DERIVED. GIVEN WITH THE SEED: THE CARDS: each row of YtmimihjbepjnfaaGreatDoorRows.lean that lists a variable, with what it lists TIED to the program's text (the seventh form; the later family's looks); each row that meets fmt, with fmt's text TOLD by the authors' own Lean function (tested against real Go, not proved from fmt's source: count such statements apart). THE CARD IS WHAT COUNTS. Prove the row's statement (the work); the ties are given (YtmimihjbepjnfaaGreatDoorTie.lean); close each card by the builder's one call (the guide's Derived/Test/ToyasCard.lean, 'card_holds'). Laid BY PROGRAM, IN A SANDBOX (cutbox-door.mjs). By AI agents, Wed Nov 11 2026. No macro, syntax, notation, axiom, sorry.
-/
import Derived.Test.YtmimihjbepjnfaaGreatDoorRows
import GoSem.ClaimSeven
namespace Go.Proofs.YtmimihjbepjnfaaGreatDoor
namespace Rows

/-- THE TIED CARD OF 'masklaw1.DesignNames'. -/
def designNamesCard : Claim7 := { stood := { row := designNamesRow, standIns := [], harness := (true, "d5a27411a7e51784d7f70cdee3e2b02b07cdd46be4b972e584d71ecab1f26eca"), looks := false }, kinds := [], alts := [], laidByText := true, laidKinds := [.data, .data, .data, .data, .pinned], laidTests := true, laidLooks := .later }
def DesignNamesCardSaid : Prop := Claim7.holds Tryz.pinned (.plain (OpenSpec.ofChange designNamesSpec)) designNamesCard

/-- THE TIED CARD OF 'masklaw1.DesignSame'. -/
def designSameCard : Claim7 := { stood := { row := designSameRow, standIns := [], harness := (true, "d5a27411a7e51784d7f70cdee3e2b02b07cdd46be4b972e584d71ecab1f26eca"), looks := false }, kinds := [], alts := [], laidByText := true, laidKinds := [.data, .data, .data, .data, .pinned], laidTests := true, laidLooks := .later }
def DesignSameCardSaid : Prop := Claim7.holds Tryz.pinned (.plain (OpenSpec.ofChange designSameSpec)) designSameCard

/-- THE SECOND FORM's CARD OF 'masklaw1.DesignNames'. -/
def designNamesUptoCard : Claim7 := { stood := { row := designNamesUptoRow, standIns := [], harness := (true, "d5a27411a7e51784d7f70cdee3e2b02b07cdd46be4b972e584d71ecab1f26eca"), looks := false }, kinds := [], alts := [], laidByText := true, laidKinds := [.data, .data, .data, .data, .pinned], laidTests := true, laidLooks := .later }
def DesignNamesUptoCardSaid : Prop := Claim7.holds Tryz.pinned (.plain (OpenSpec.upto designNamesSpec)) designNamesUptoCard

/-- THE SECOND FORM's CARD OF 'masklaw1.DesignSame'. -/
def designSameUptoCard : Claim7 := { stood := { row := designSameUptoRow, standIns := [], harness := (true, "d5a27411a7e51784d7f70cdee3e2b02b07cdd46be4b972e584d71ecab1f26eca"), looks := false }, kinds := [], alts := [], laidByText := true, laidKinds := [.data, .data, .data, .data, .pinned], laidTests := true, laidLooks := .later }
def DesignSameUptoCardSaid : Prop := Claim7.holds Tryz.pinned (.plain (OpenSpec.upto designSameSpec)) designSameUptoCard
end Rows
end Go.Proofs.YtmimihjbepjnfaaGreatDoor
