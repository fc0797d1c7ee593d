/- The reference's NoteText. -/
import Derived.Test.YtmememehlfbgaaaDoorNoteXa
namespace Go.Proofs.YtmememehlfbgaaaDoor
open Go Go.RowKit Go.Sort
set_option linter.unusedVariables false
end Go.Proofs.YtmememehlfbgaaaDoor
