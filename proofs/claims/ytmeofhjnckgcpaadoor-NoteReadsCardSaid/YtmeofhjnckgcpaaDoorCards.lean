/-
  DERIVED. GIVEN WITH THE SEED: THE CARDS: each row of YtmeofhjnckgcpaaDoorRows.lean that lists a variable, with what it lists TIED to the program's text (the seventh form; the later family's looks); each row that meets fmt, with fmt's text TOLD by the authors' own Lean function (tested against real Go, not proved from fmt's source: count such statements apart). THE CARD IS WHAT COUNTS. Prove the row's statement (the work); the ties are given (YtmeofhjnckgcpaaDoorTie.lean); close each card by the builder's one call (the guide's Derived/Test/ToyasCard.lean, 'card_holds'). Laid BY PROGRAM, IN A SANDBOX (cutbox-door.mjs). By AI agents, Wed Nov 11 2026. No macro, syntax, notation, axiom, sorry.
-/
import Derived.Test.YtmeofhjnckgcpaaDoorRows
import GoSem.ClaimSeven
namespace Go.Proofs.YtmeofhjnckgcpaaDoor
namespace Rows

/-- THE TIED CARD OF 'masklaw1.NoteChecks'. -/
def noteChecksCard : Claim7 := { stood := { row := noteChecksRow, standIns := [], harness := (true, "c7e1b545da7404b5f219e88d738f2d640a6e35882b66b50e16c2496ab7f8caec"), looks := false }, kinds := [], alts := [], laidByText := true, laidKinds := [.data, .data, .data, .data], laidTests := true, laidLooks := .later }
def NoteChecksCardSaid : Prop := Claim7.holds Tryd.pinned (.plain (OpenSpec.ofChange noteChecksSpec)) noteChecksCard

/-- THE TIED CARD OF 'masklaw1.NoteReads'. -/
def noteReadsCard : Claim7 := { stood := { row := noteReadsRow, standIns := [], harness := (true, "c7e1b545da7404b5f219e88d738f2d640a6e35882b66b50e16c2496ab7f8caec"), looks := false }, kinds := [], alts := [], laidByText := true, laidKinds := [.data, .data, .data, .data], laidTests := true, laidLooks := .later }
def NoteReadsCardSaid : Prop := Claim7.holds Tryd.pinned (.plain (OpenSpec.ofChange noteReadsSpec)) noteReadsCard

/-- THE TIED CARD OF 'masklaw1.NoteSorts'. -/
def noteSortsCard : Claim7 := { stood := { row := noteSortsRow, standIns := [], harness := (true, "c7e1b545da7404b5f219e88d738f2d640a6e35882b66b50e16c2496ab7f8caec"), looks := false }, kinds := [], alts := [], laidByText := true, laidKinds := [.data, .data, .data, .data], laidTests := true, laidLooks := .later }
def NoteSortsCardSaid : Prop := Claim7.holds Tryd.pinned (.plain (OpenSpec.ofChange noteSortsSpec)) noteSortsCard

/-- THE TIED CARD OF 'masklaw1.NotePlaces'. -/
def notePlacesCard : Claim7 := { stood := { row := notePlacesRow, standIns := [], harness := (true, "c7e1b545da7404b5f219e88d738f2d640a6e35882b66b50e16c2496ab7f8caec"), looks := false }, kinds := [], alts := [], laidByText := true, laidKinds := [.data, .data, .data, .data], laidTests := true, laidLooks := .later }
def NotePlacesCardSaid : Prop := Claim7.holds Tryd.pinned (.plain (OpenSpec.ofChange notePlacesSpec)) notePlacesCard

/-- THE TIED CARD OF 'maskkeep1.NoteReread'. -/
def noteRereadCard : Claim7 := { stood := { row := noteRereadRow, standIns := [], harness := (true, "c7e1b545da7404b5f219e88d738f2d640a6e35882b66b50e16c2496ab7f8caec"), looks := false }, kinds := [], alts := [], laidByText := true, laidKinds := [.data, .data, .data, .data, .data, .pinned], laidTests := true, laidLooks := .later }
def NoteRereadCardSaid : Prop := Claim7.holds Tryd.pinned (.plain (OpenSpec.ofChange noteRereadSpec)) noteRereadCard

/-- THE TIED CARD OF 'maskkeep1.NoteOrder'. -/
def noteOrderCard : Claim7 := { stood := { row := noteOrderRow, standIns := [], harness := (true, "c7e1b545da7404b5f219e88d738f2d640a6e35882b66b50e16c2496ab7f8caec"), looks := false }, kinds := [], alts := [], laidByText := true, laidKinds := [.data, .pinned], laidTests := true, laidLooks := .later }
def NoteOrderCardSaid : Prop := Claim7.holds Tryd.pinned (.plain (OpenSpec.ofChange noteOrderSpec)) noteOrderCard

/-- THE TIED CARD OF 'maskkeep1.NotePlaced'. -/
def notePlacedCard : Claim7 := { stood := { row := notePlacedRow, standIns := [], harness := (true, "c7e1b545da7404b5f219e88d738f2d640a6e35882b66b50e16c2496ab7f8caec"), looks := false }, kinds := [], alts := [], laidByText := true, laidKinds := [.data, .pinned], laidTests := true, laidLooks := .later }
def NotePlacedCardSaid : Prop := Claim7.holds Tryd.pinned (.plain (OpenSpec.ofChange notePlacedSpec)) notePlacedCard

/-- THE SECOND FORM's CARD OF 'masklaw1.NoteChecks'. -/
def noteChecksUptoCard : Claim7 := { stood := { row := noteChecksUptoRow, standIns := [], harness := (true, "c7e1b545da7404b5f219e88d738f2d640a6e35882b66b50e16c2496ab7f8caec"), looks := false }, kinds := [], alts := [], laidByText := true, laidKinds := [.data, .data, .data, .data], laidTests := true, laidLooks := .later }
def NoteChecksUptoCardSaid : Prop := Claim7.holds Tryd.pinned (.plain (OpenSpec.upto noteChecksSpec)) noteChecksUptoCard

/-- THE SECOND FORM's CARD OF 'masklaw1.NoteReads'. -/
def noteReadsUptoCard : Claim7 := { stood := { row := noteReadsUptoRow, standIns := [], harness := (true, "c7e1b545da7404b5f219e88d738f2d640a6e35882b66b50e16c2496ab7f8caec"), looks := false }, kinds := [], alts := [], laidByText := true, laidKinds := [.data, .data, .data, .data], laidTests := true, laidLooks := .later }
def NoteReadsUptoCardSaid : Prop := Claim7.holds Tryd.pinned (.plain (OpenSpec.upto noteReadsSpec)) noteReadsUptoCard

/-- THE SECOND FORM's CARD OF 'masklaw1.NoteSorts'. -/
def noteSortsUptoCard : Claim7 := { stood := { row := noteSortsUptoRow, standIns := [], harness := (true, "c7e1b545da7404b5f219e88d738f2d640a6e35882b66b50e16c2496ab7f8caec"), looks := false }, kinds := [], alts := [], laidByText := true, laidKinds := [.data, .data, .data, .data], laidTests := true, laidLooks := .later }
def NoteSortsUptoCardSaid : Prop := Claim7.holds Tryd.pinned (.plain (OpenSpec.upto noteSortsSpec)) noteSortsUptoCard

/-- THE SECOND FORM's CARD OF 'masklaw1.NotePlaces'. -/
def notePlacesUptoCard : Claim7 := { stood := { row := notePlacesUptoRow, standIns := [], harness := (true, "c7e1b545da7404b5f219e88d738f2d640a6e35882b66b50e16c2496ab7f8caec"), looks := false }, kinds := [], alts := [], laidByText := true, laidKinds := [.data, .data, .data, .data], laidTests := true, laidLooks := .later }
def NotePlacesUptoCardSaid : Prop := Claim7.holds Tryd.pinned (.plain (OpenSpec.upto notePlacesSpec)) notePlacesUptoCard

/-- THE SECOND FORM's CARD OF 'maskkeep1.NoteReread'. -/
def noteRereadUptoCard : Claim7 := { stood := { row := noteRereadUptoRow, standIns := [], harness := (true, "c7e1b545da7404b5f219e88d738f2d640a6e35882b66b50e16c2496ab7f8caec"), looks := false }, kinds := [], alts := [], laidByText := true, laidKinds := [.data, .data, .data, .data, .data, .pinned], laidTests := true, laidLooks := .later }
def NoteRereadUptoCardSaid : Prop := Claim7.holds Tryd.pinned (.plain (OpenSpec.upto noteRereadSpec)) noteRereadUptoCard

/-- THE SECOND FORM's CARD OF 'maskkeep1.NoteOrder'. -/
def noteOrderUptoCard : Claim7 := { stood := { row := noteOrderUptoRow, standIns := [], harness := (true, "c7e1b545da7404b5f219e88d738f2d640a6e35882b66b50e16c2496ab7f8caec"), looks := false }, kinds := [], alts := [], laidByText := true, laidKinds := [.data, .pinned], laidTests := true, laidLooks := .later }
def NoteOrderUptoCardSaid : Prop := Claim7.holds Tryd.pinned (.plain (OpenSpec.upto noteOrderSpec)) noteOrderUptoCard

/-- THE SECOND FORM's CARD OF 'maskkeep1.NotePlaced'. -/
def notePlacedUptoCard : Claim7 := { stood := { row := notePlacedUptoRow, standIns := [], harness := (true, "c7e1b545da7404b5f219e88d738f2d640a6e35882b66b50e16c2496ab7f8caec"), looks := false }, kinds := [], alts := [], laidByText := true, laidKinds := [.data, .pinned], laidTests := true, laidLooks := .later }
def NotePlacedUptoCardSaid : Prop := Claim7.holds Tryd.pinned (.plain (OpenSpec.upto notePlacedSpec)) notePlacedUptoCard
end Rows
end Go.Proofs.YtmeofhjnckgcpaaDoor
