/- The operations of package bits on vectors that are valid: what they return. -/
import Derived.Test.YtgmgmkhcadimjaaDoorBit
namespace Go.Proofs.YtgmgmkhcadimjaaDoor
open Go Go.RowKit
set_option linter.unusedVariables false
def vlnot (a : Vx) : Vx := vnot 1 (redor a)
def redand (n : Nat) (a : Vx) : Vx := vnot 1 (redor (vnot n a))
end Go.Proofs.YtgmgmkhcadimjaaDoor
