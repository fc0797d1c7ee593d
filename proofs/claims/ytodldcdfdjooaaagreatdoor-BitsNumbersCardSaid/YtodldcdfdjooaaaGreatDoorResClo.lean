/- The closures of the reference's Resolved and Chosen. -/
import Derived.Test.YtodldcdfdjooaaaGreatDoorResMath
namespace Go.Proofs.YtodldcdfdjooaaaGreatDoor
open Go Go.RowKit
set_option linter.unusedVariables false
end Go.Proofs.YtodldcdfdjooaaaGreatDoor
