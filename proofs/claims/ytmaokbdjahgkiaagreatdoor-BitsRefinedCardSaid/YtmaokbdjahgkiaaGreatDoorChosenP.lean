/- Fits, Resolve and Cond of any vectors. -/
import Derived.Test.YtmaokbdjahgkiaaGreatDoorRaw
import Derived.Test.YtmaokbdjahgkiaaGreatDoorOps
import Derived.Test.YtmaokbdjahgkiaaGreatDoorDigits
import Derived.Lib.QuietBelow
namespace Go.Proofs.YtmaokbdjahgkiaaGreatDoor
open Go Go.RowKit Go.Sort
set_option linter.unusedVariables false
/-- do two vectors of one width fit each other -/
def vfits (a b : Vx) (kind : Int) : Bool :=
  if kind = 0 then diff1 a b == 0#64 else if kind = 1 then diff1 a b &&& ~~~(free1 a ||| free1 b) == 0#64 else if kind = 2 then diff1 a b &&& ~~~(a.x ||| b.x) == 0#64 else false
end Go.Proofs.YtmaokbdjahgkiaaGreatDoor
