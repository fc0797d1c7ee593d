/- The reference's NoteFault. -/
import Derived.Test.YtmememehlfbgaaaDoorNoteR
namespace Go.Proofs.YtmememehlfbgaaaDoor
open Go Go.RowKit
set_option linter.unusedVariables false
end Go.Proofs.YtmememehlfbgaaaDoor
