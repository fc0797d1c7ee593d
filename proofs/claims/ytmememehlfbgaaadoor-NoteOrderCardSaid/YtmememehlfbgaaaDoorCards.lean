/-
  DERIVED. GIVEN WITH THE SEED: THE CARDS: each row of YtmememehlfbgaaaDoorRows.lean that lists a variable, with what it lists TIED to the program's text (the seventh form; the later family's looks); each row that meets fmt, with fmt's text TOLD by the authors' own Lean function (tested against real Go, not proved from fmt's source: count such statements apart). THE CARD IS WHAT COUNTS. Prove the row's statement (the work); the ties are given (YtmememehlfbgaaaDoorTie.lean); close each card by the builder's one call (the guide's Derived/Test/ToyasCard.lean, 'card_holds'). Laid BY PROGRAM, IN A SANDBOX (cutbox-door.mjs). By AI agents, Wed Nov 11 2026. No macro, syntax, notation, axiom, sorry.
-/
import Derived.Test.YtmememehlfbgaaaDoorRows
import GoSem.ClaimSeven
namespace Go.Proofs.YtmememehlfbgaaaDoor
namespace Rows

/-- THE TIED CARD OF 'masklaw1.BitsTexts'. -/
def bitsTextsCard : Claim7 := { stood := { row := bitsTextsRow, standIns := [], harness := (true, "b2b2940082da2374b5dc041cc11aba7adb50effd0a6272b1997789d571919599"), looks := true }, kinds := [], alts := [], laidByText := true, laidKinds := [.data, .data, .data, .sentinel, .sentinel], laidTests := true, laidLooks := .later }
def BitsTextsCardSaid : Prop := Claim7.holds Tryd.pinned (.plain (OpenSpec.ofChange bitsTextsSpec)) bitsTextsCard

/-- THE TIED CARD OF 'masklaw1.NoteSorts'. -/
def noteSortsCard : Claim7 := { stood := { row := noteSortsRow, standIns := [], harness := (true, "b2b2940082da2374b5dc041cc11aba7adb50effd0a6272b1997789d571919599"), looks := true }, kinds := [], alts := [], laidByText := true, laidKinds := [.data, .data, .data, .data], laidTests := true, laidLooks := .later }
def NoteSortsCardSaid : Prop := Claim7.holds Tryd.pinned (.plain (OpenSpec.ofChange noteSortsSpec)) noteSortsCard

/-- THE TIED CARD OF 'maskkeep1.NoteOrder'. -/
def noteOrderCard : Claim7 := { stood := { row := noteOrderRow, standIns := [], harness := (true, "b2b2940082da2374b5dc041cc11aba7adb50effd0a6272b1997789d571919599"), looks := true }, kinds := [], alts := [], laidByText := true, laidKinds := [.data, .pinned], laidTests := true, laidLooks := .later }
def NoteOrderCardSaid : Prop := Claim7.holds Tryd.pinned (.plain (OpenSpec.ofChange noteOrderSpec)) noteOrderCard

/-- THE SECOND FORM's CARD OF 'masklaw1.BitsTexts'. -/
def bitsTextsUptoCard : Claim7 := { stood := { row := bitsTextsUptoRow, standIns := [], harness := (true, "b2b2940082da2374b5dc041cc11aba7adb50effd0a6272b1997789d571919599"), looks := true }, kinds := [], alts := [], laidByText := true, laidKinds := [.data, .data, .data, .sentinel, .sentinel], laidTests := true, laidLooks := .later }
def BitsTextsUptoCardSaid : Prop := Claim7.holds Tryd.pinned (.plain (OpenSpec.upto bitsTextsSpec)) bitsTextsUptoCard

/-- THE SECOND FORM's CARD OF 'masklaw1.NoteSorts'. -/
def noteSortsUptoCard : Claim7 := { stood := { row := noteSortsUptoRow, standIns := [], harness := (true, "b2b2940082da2374b5dc041cc11aba7adb50effd0a6272b1997789d571919599"), looks := true }, kinds := [], alts := [], laidByText := true, laidKinds := [.data, .data, .data, .data], laidTests := true, laidLooks := .later }
def NoteSortsUptoCardSaid : Prop := Claim7.holds Tryd.pinned (.plain (OpenSpec.upto noteSortsSpec)) noteSortsUptoCard

/-- THE SECOND FORM's CARD OF 'maskkeep1.NoteOrder'. -/
def noteOrderUptoCard : Claim7 := { stood := { row := noteOrderUptoRow, standIns := [], harness := (true, "b2b2940082da2374b5dc041cc11aba7adb50effd0a6272b1997789d571919599"), looks := true }, kinds := [], alts := [], laidByText := true, laidKinds := [.data, .pinned], laidTests := true, laidLooks := .later }
def NoteOrderUptoCardSaid : Prop := Claim7.holds Tryd.pinned (.plain (OpenSpec.upto noteOrderSpec)) noteOrderUptoCard
end Rows
end Go.Proofs.YtmememehlfbgaaaDoor
