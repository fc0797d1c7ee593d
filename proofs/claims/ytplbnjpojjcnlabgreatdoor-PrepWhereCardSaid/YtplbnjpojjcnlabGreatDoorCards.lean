/-
  DERIVED. GIVEN WITH THE SEED: THE CARDS: each row of YtplbnjpojjcnlabGreatDoorRows.lean that lists a variable, with what it lists TIED to the program's text (the seventh form; the later family's looks); each row that meets fmt, with fmt's text TOLD by the authors' own Lean function (tested against real Go, not proved from fmt's source: count such statements apart). THE CARD IS WHAT COUNTS. Prove the row's statement (the work); the ties are given (YtplbnjpojjcnlabGreatDoorTie.lean); close each card by the builder's one call (the guide's Derived/Test/ToyasCard.lean, 'card_holds'). Laid BY PROGRAM, IN A SANDBOX (cutbox-door.mjs). By AI agents, Wed Nov 11 2026. No macro, syntax, notation, axiom, sorry.
-/
import Derived.Test.YtplbnjpojjcnlabGreatDoorRows
import GoSem.ClaimSeven
namespace Go.Proofs.YtplbnjpojjcnlabGreatDoor
namespace Rows

/-- THE TIED CARD OF 'masklaw1.PrepWhere'. -/
def prepWhereCard : Claim7 := { stood := { row := prepWhereRow, standIns := [], harness := (true, "672a78aa732f0f1695928ba1a43d5bc0253c652826379b968e5d4509a4d9ebff"), looks := false }, kinds := [], alts := [], laidByText := true, laidKinds := [.data, .data, .pinned], laidTests := true, laidLooks := .later }
def PrepWhereCardSaid : Prop := Claim7.holds Tryz.pinned (.plain (OpenSpec.ofChange prepWhereSpec)) prepWhereCard

/-- THE SECOND FORM's CARD OF 'masklaw1.PrepWhere'. -/
def prepWhereUptoCard : Claim7 := { stood := { row := prepWhereUptoRow, standIns := [], harness := (true, "672a78aa732f0f1695928ba1a43d5bc0253c652826379b968e5d4509a4d9ebff"), looks := false }, kinds := [], alts := [], laidByText := true, laidKinds := [.data, .data, .pinned], laidTests := true, laidLooks := .later }
def PrepWhereUptoCardSaid : Prop := Claim7.holds Tryz.pinned (.plain (OpenSpec.upto prepWhereSpec)) prepWhereUptoCard
end Rows
end Go.Proofs.YtplbnjpojjcnlabGreatDoor
