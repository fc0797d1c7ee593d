/- What is asked of Check, Same and Copy. No condition. -/
import Derived.Test.YtcpifmhcebfglaaGlC
namespace Go.Proofs.Ytcpifmhcebfglaa
open Go Go.RowKit Go.Sort
set_option linter.unusedVariables false
def CheckC : Prop := ∀ (g : Gr) (v : Value) (w : World), Small g → GO g v w → Calls Try.prog 71 #[v] w fun e w' => e = .returned (.int .i64 (faultG g)) ∧ Below w.heap.size w w'
def CopyC : Prop := ∀ (g : Gr) (v : Value) (w : World), Small g → GO g v w → Calls Try.prog 90 #[v] w fun e w' => ∃ u, e = .returned u ∧ GO g u w' ∧ Below w.heap.size w w'
end Go.Proofs.Ytcpifmhcebfglaa
