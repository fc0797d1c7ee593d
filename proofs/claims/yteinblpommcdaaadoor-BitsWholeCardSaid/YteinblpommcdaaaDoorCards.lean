/-
  DERIVED. GIVEN WITH THE SEED: THE CARDS: each row of YteinblpommcdaaaDoorRows.lean that lists a variable, with what it lists TIED to the program's text (the seventh form; the later family's looks); each row that meets fmt, with fmt's text TOLD by the authors' own Lean function (tested against real Go, not proved from fmt's source: count such statements apart). THE CARD IS WHAT COUNTS. Prove the row's statement (the work); the ties are given (YteinblpommcdaaaDoorTie.lean); close each card by the builder's one call (the guide's Derived/Test/ToyasCard.lean, 'card_holds'). Laid BY PROGRAM, IN A SANDBOX (cutbox-door.mjs). By AI agents, Wed Nov 11 2026. No macro, syntax, notation, axiom, sorry.
-/
import Derived.Test.YteinblpommcdaaaDoorRows
import GoSem.ClaimSeven
namespace Go.Proofs.YteinblpommcdaaaDoor
namespace Rows

/-- THE TIED CARD OF 'masklaw1.BitsMade'. -/
def bitsMadeCard : Claim7 := { stood := { row := bitsMadeRow, standIns := [], harness := (true, "c541dcc26bbcc0d747634c46c95210d3d445255d657eaf0e98f20adf51225af4"), looks := true }, kinds := [], alts := [], laidByText := true, laidKinds := [.data, .data, .data, .sentinel, .sentinel], laidTests := true, laidLooks := .later }
def BitsMadeCardSaid : Prop := Claim7.holds Tryd.pinned (.plain (OpenSpec.ofChange bitsMadeSpec)) bitsMadeCard

/-- THE TIED CARD OF 'masklaw1.BitsChosen'. -/
def bitsChosenCard : Claim7 := { stood := { row := bitsChosenRow, standIns := [], harness := (true, "c541dcc26bbcc0d747634c46c95210d3d445255d657eaf0e98f20adf51225af4"), looks := true }, kinds := [], alts := [], laidByText := true, laidKinds := [.data, .data, .data, .sentinel, .sentinel], laidTests := true, laidLooks := .later }
def BitsChosenCardSaid : Prop := Claim7.holds Tryd.pinned (.plain (OpenSpec.ofChange bitsChosenSpec)) bitsChosenCard

/-- THE TIED CARD OF 'masklaw1.BitsCat'. -/
def bitsCatCard : Claim7 := { stood := { row := bitsCatRow, standIns := [], harness := (true, "c541dcc26bbcc0d747634c46c95210d3d445255d657eaf0e98f20adf51225af4"), looks := true }, kinds := [], alts := [], laidByText := true, laidKinds := [.data, .data, .data, .sentinel, .sentinel], laidTests := true, laidLooks := .later }
def BitsCatCardSaid : Prop := Claim7.holds Tryd.pinned (.plain (OpenSpec.ofChange bitsCatSpec)) bitsCatCard

/-- THE TIED CARD OF 'masklaw1.BitsParts'. -/
def bitsPartsCard : Claim7 := { stood := { row := bitsPartsRow, standIns := [], harness := (true, "c541dcc26bbcc0d747634c46c95210d3d445255d657eaf0e98f20adf51225af4"), looks := true }, kinds := [], alts := [], laidByText := true, laidKinds := [.data, .data, .data, .sentinel, .sentinel], laidTests := true, laidLooks := .later }
def BitsPartsCardSaid : Prop := Claim7.holds Tryd.pinned (.plain (OpenSpec.ofChange bitsPartsSpec)) bitsPartsCard

/-- THE TIED CARD OF 'masklaw1.BitsTexts'. -/
def bitsTextsCard : Claim7 := { stood := { row := bitsTextsRow, standIns := [], harness := (true, "c541dcc26bbcc0d747634c46c95210d3d445255d657eaf0e98f20adf51225af4"), looks := true }, kinds := [], alts := [], laidByText := true, laidKinds := [.data, .data, .data, .sentinel, .sentinel], laidTests := true, laidLooks := .later }
def BitsTextsCardSaid : Prop := Claim7.holds Tryd.pinned (.plain (OpenSpec.ofChange bitsTextsSpec)) bitsTextsCard

/-- THE TIED CARD OF 'maskkeep1.BitsWhole'. -/
def bitsWholeCard : Claim7 := { stood := { row := bitsWholeRow, standIns := [], harness := (true, "c541dcc26bbcc0d747634c46c95210d3d445255d657eaf0e98f20adf51225af4"), looks := true }, kinds := [], alts := [], laidByText := true, laidKinds := [.data, .data, .data, .sentinel, .sentinel], laidTests := true, laidLooks := .later }
def BitsWholeCardSaid : Prop := Claim7.holds Tryd.pinned (.plain (OpenSpec.ofChange bitsWholeSpec)) bitsWholeCard

/-- THE SECOND FORM's CARD OF 'masklaw1.BitsMade'. -/
def bitsMadeUptoCard : Claim7 := { stood := { row := bitsMadeUptoRow, standIns := [], harness := (true, "c541dcc26bbcc0d747634c46c95210d3d445255d657eaf0e98f20adf51225af4"), looks := true }, kinds := [], alts := [], laidByText := true, laidKinds := [.data, .data, .data, .sentinel, .sentinel], laidTests := true, laidLooks := .later }
def BitsMadeUptoCardSaid : Prop := Claim7.holds Tryd.pinned (.plain (OpenSpec.upto bitsMadeSpec)) bitsMadeUptoCard

/-- THE SECOND FORM's CARD OF 'masklaw1.BitsChosen'. -/
def bitsChosenUptoCard : Claim7 := { stood := { row := bitsChosenUptoRow, standIns := [], harness := (true, "c541dcc26bbcc0d747634c46c95210d3d445255d657eaf0e98f20adf51225af4"), looks := true }, kinds := [], alts := [], laidByText := true, laidKinds := [.data, .data, .data, .sentinel, .sentinel], laidTests := true, laidLooks := .later }
def BitsChosenUptoCardSaid : Prop := Claim7.holds Tryd.pinned (.plain (OpenSpec.upto bitsChosenSpec)) bitsChosenUptoCard

/-- THE SECOND FORM's CARD OF 'masklaw1.BitsCat'. -/
def bitsCatUptoCard : Claim7 := { stood := { row := bitsCatUptoRow, standIns := [], harness := (true, "c541dcc26bbcc0d747634c46c95210d3d445255d657eaf0e98f20adf51225af4"), looks := true }, kinds := [], alts := [], laidByText := true, laidKinds := [.data, .data, .data, .sentinel, .sentinel], laidTests := true, laidLooks := .later }
def BitsCatUptoCardSaid : Prop := Claim7.holds Tryd.pinned (.plain (OpenSpec.upto bitsCatSpec)) bitsCatUptoCard

/-- THE SECOND FORM's CARD OF 'masklaw1.BitsParts'. -/
def bitsPartsUptoCard : Claim7 := { stood := { row := bitsPartsUptoRow, standIns := [], harness := (true, "c541dcc26bbcc0d747634c46c95210d3d445255d657eaf0e98f20adf51225af4"), looks := true }, kinds := [], alts := [], laidByText := true, laidKinds := [.data, .data, .data, .sentinel, .sentinel], laidTests := true, laidLooks := .later }
def BitsPartsUptoCardSaid : Prop := Claim7.holds Tryd.pinned (.plain (OpenSpec.upto bitsPartsSpec)) bitsPartsUptoCard

/-- THE SECOND FORM's CARD OF 'masklaw1.BitsTexts'. -/
def bitsTextsUptoCard : Claim7 := { stood := { row := bitsTextsUptoRow, standIns := [], harness := (true, "c541dcc26bbcc0d747634c46c95210d3d445255d657eaf0e98f20adf51225af4"), looks := true }, kinds := [], alts := [], laidByText := true, laidKinds := [.data, .data, .data, .sentinel, .sentinel], laidTests := true, laidLooks := .later }
def BitsTextsUptoCardSaid : Prop := Claim7.holds Tryd.pinned (.plain (OpenSpec.upto bitsTextsSpec)) bitsTextsUptoCard

/-- THE SECOND FORM's CARD OF 'maskkeep1.BitsWhole'. -/
def bitsWholeUptoCard : Claim7 := { stood := { row := bitsWholeUptoRow, standIns := [], harness := (true, "c541dcc26bbcc0d747634c46c95210d3d445255d657eaf0e98f20adf51225af4"), looks := true }, kinds := [], alts := [], laidByText := true, laidKinds := [.data, .data, .data, .sentinel, .sentinel], laidTests := true, laidLooks := .later }
def BitsWholeUptoCardSaid : Prop := Claim7.holds Tryd.pinned (.plain (OpenSpec.upto bitsWholeSpec)) bitsWholeUptoCard
end Rows
end Go.Proofs.YteinblpommcdaaaDoor
