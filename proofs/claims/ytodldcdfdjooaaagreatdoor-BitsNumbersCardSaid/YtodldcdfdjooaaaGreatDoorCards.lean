/-
  DERIVED. GIVEN WITH THE SEED: THE CARDS: each row of YtodldcdfdjooaaaGreatDoorRows.lean that lists a variable, with what it lists TIED to the program's text (the seventh form; the later family's looks); each row that meets fmt, with fmt's text TOLD by the authors' own Lean function (tested against real Go, not proved from fmt's source: count such statements apart). THE CARD IS WHAT COUNTS. Prove the row's statement (the work); the ties are given (YtodldcdfdjooaaaGreatDoorTie.lean); close each card by the builder's one call (the guide's Derived/Test/ToyasCard.lean, 'card_holds'). Laid BY PROGRAM, IN A SANDBOX (cutbox-door.mjs). By AI agents, Wed Nov 11 2026. No macro, syntax, notation, axiom, sorry.
-/
import Derived.Test.YtodldcdfdjooaaaGreatDoorRows
import GoSem.ClaimSeven
namespace Go.Proofs.YtodldcdfdjooaaaGreatDoor
namespace Rows

/-- THE TIED CARD OF 'masklaw1.BitsJoined'. -/
def bitsJoinedCard : Claim7 := { stood := { row := bitsJoinedRow, standIns := [], harness := (true, "1d6f9007b6b59249b36eb51bc237bc5e8104fc44284fb78929c5a83c25fe42a8"), looks := true }, kinds := [], alts := [], laidByText := true, laidKinds := [.data, .data, .data, .sentinel, .sentinel], laidTests := true, laidLooks := .later }
def BitsJoinedCardSaid : Prop := Claim7.holds Tryz.pinned (.plain (OpenSpec.ofChange bitsJoinedSpec)) bitsJoinedCard

/-- THE TIED CARD OF 'masklaw1.BitsNumbers'. -/
def bitsNumbersCard : Claim7 := { stood := { row := bitsNumbersRow, standIns := [], harness := (true, "1d6f9007b6b59249b36eb51bc237bc5e8104fc44284fb78929c5a83c25fe42a8"), looks := true }, kinds := [], alts := [], laidByText := true, laidKinds := [.data, .data, .data, .sentinel, .sentinel], laidTests := true, laidLooks := .later }
def BitsNumbersCardSaid : Prop := Claim7.holds Tryz.pinned (.plain (OpenSpec.ofChange bitsNumbersSpec)) bitsNumbersCard

/-- THE TIED CARD OF 'masklaw1.BitsShifted'. -/
def bitsShiftedCard : Claim7 := { stood := { row := bitsShiftedRow, standIns := [], harness := (true, "1d6f9007b6b59249b36eb51bc237bc5e8104fc44284fb78929c5a83c25fe42a8"), looks := true }, kinds := [], alts := [], laidByText := true, laidKinds := [.data, .data, .data, .sentinel, .sentinel], laidTests := true, laidLooks := .later }
def BitsShiftedCardSaid : Prop := Claim7.holds Tryz.pinned (.plain (OpenSpec.ofChange bitsShiftedSpec)) bitsShiftedCard

/-- THE TIED CARD OF 'masklaw1.BitsCompared'. -/
def bitsComparedCard : Claim7 := { stood := { row := bitsComparedRow, standIns := [], harness := (true, "1d6f9007b6b59249b36eb51bc237bc5e8104fc44284fb78929c5a83c25fe42a8"), looks := true }, kinds := [], alts := [], laidByText := true, laidKinds := [.data, .data, .data, .sentinel, .sentinel], laidTests := true, laidLooks := .later }
def BitsComparedCardSaid : Prop := Claim7.holds Tryz.pinned (.plain (OpenSpec.ofChange bitsComparedSpec)) bitsComparedCard

/-- THE TIED CARD OF 'maskkeep1.BitsRefined'. -/
def bitsRefinedCard : Claim7 := { stood := { row := bitsRefinedRow, standIns := [], harness := (true, "1d6f9007b6b59249b36eb51bc237bc5e8104fc44284fb78929c5a83c25fe42a8"), looks := true }, kinds := [], alts := [], laidByText := true, laidKinds := [.data, .data, .data, .sentinel, .sentinel], laidTests := true, laidLooks := .later }
def BitsRefinedCardSaid : Prop := Claim7.holds Tryz.pinned (.plain (OpenSpec.ofChange bitsRefinedSpec)) bitsRefinedCard

/-- THE SECOND FORM's CARD OF 'masklaw1.BitsJoined'. -/
def bitsJoinedUptoCard : Claim7 := { stood := { row := bitsJoinedUptoRow, standIns := [], harness := (true, "1d6f9007b6b59249b36eb51bc237bc5e8104fc44284fb78929c5a83c25fe42a8"), looks := true }, kinds := [], alts := [], laidByText := true, laidKinds := [.data, .data, .data, .sentinel, .sentinel], laidTests := true, laidLooks := .later }
def BitsJoinedUptoCardSaid : Prop := Claim7.holds Tryz.pinned (.plain (OpenSpec.upto bitsJoinedSpec)) bitsJoinedUptoCard

/-- THE SECOND FORM's CARD OF 'masklaw1.BitsNumbers'. -/
def bitsNumbersUptoCard : Claim7 := { stood := { row := bitsNumbersUptoRow, standIns := [], harness := (true, "1d6f9007b6b59249b36eb51bc237bc5e8104fc44284fb78929c5a83c25fe42a8"), looks := true }, kinds := [], alts := [], laidByText := true, laidKinds := [.data, .data, .data, .sentinel, .sentinel], laidTests := true, laidLooks := .later }
def BitsNumbersUptoCardSaid : Prop := Claim7.holds Tryz.pinned (.plain (OpenSpec.upto bitsNumbersSpec)) bitsNumbersUptoCard

/-- THE SECOND FORM's CARD OF 'masklaw1.BitsShifted'. -/
def bitsShiftedUptoCard : Claim7 := { stood := { row := bitsShiftedUptoRow, standIns := [], harness := (true, "1d6f9007b6b59249b36eb51bc237bc5e8104fc44284fb78929c5a83c25fe42a8"), looks := true }, kinds := [], alts := [], laidByText := true, laidKinds := [.data, .data, .data, .sentinel, .sentinel], laidTests := true, laidLooks := .later }
def BitsShiftedUptoCardSaid : Prop := Claim7.holds Tryz.pinned (.plain (OpenSpec.upto bitsShiftedSpec)) bitsShiftedUptoCard

/-- THE SECOND FORM's CARD OF 'masklaw1.BitsCompared'. -/
def bitsComparedUptoCard : Claim7 := { stood := { row := bitsComparedUptoRow, standIns := [], harness := (true, "1d6f9007b6b59249b36eb51bc237bc5e8104fc44284fb78929c5a83c25fe42a8"), looks := true }, kinds := [], alts := [], laidByText := true, laidKinds := [.data, .data, .data, .sentinel, .sentinel], laidTests := true, laidLooks := .later }
def BitsComparedUptoCardSaid : Prop := Claim7.holds Tryz.pinned (.plain (OpenSpec.upto bitsComparedSpec)) bitsComparedUptoCard

/-- THE SECOND FORM's CARD OF 'maskkeep1.BitsRefined'. -/
def bitsRefinedUptoCard : Claim7 := { stood := { row := bitsRefinedUptoRow, standIns := [], harness := (true, "1d6f9007b6b59249b36eb51bc237bc5e8104fc44284fb78929c5a83c25fe42a8"), looks := true }, kinds := [], alts := [], laidByText := true, laidKinds := [.data, .data, .data, .sentinel, .sentinel], laidTests := true, laidLooks := .later }
def BitsRefinedUptoCardSaid : Prop := Claim7.holds Tryz.pinned (.plain (OpenSpec.upto bitsRefinedSpec)) bitsRefinedUptoCard
end Rows
end Go.Proofs.YtodldcdfdjooaaaGreatDoor
