/- Package note: takeApart and Read of the text of a valid message. -/
import Derived.Test.YtmememehlfbgaaaDoorNoteRd
namespace Go.Proofs.YtmememehlfbgaaaDoor
open Go Go.RowKit
set_option linter.unusedVariables false
theorem ba_eta (b : ByteArray) : (⟨b.data⟩ : ByteArray) = b := rfl
/-- a message in block g -/
structure MsgAt (w : World) (g : Nat) (f : ByteArray) (l c e : Int) (t : ByteArray) : Prop where
  c0 : w.cell? ⟨g, 0, none⟩ = some (.string f)
  c1 : w.cell? ⟨g, 1, none⟩ = some (.int .i64 l)
  c2 : w.cell? ⟨g, 2, none⟩ = some (.int .i64 c)
  c3 : w.cell? ⟨g, 3, none⟩ = some (.int .i64 e)
  c4 : w.cell? ⟨g, 4, none⟩ = some (.string t)
  fz : ∀ o, w.frozen? ⟨g, o, none⟩ = false
end Go.Proofs.YtmememehlfbgaaaDoor
