/- What is asked of Check, Same and Copy. No condition. -/
import Derived.Test.YtbphhcjepeamcaaGlC
namespace Go.Proofs.Ytbphhcjepeamcaa
open Go Go.RowKit Go.Sort
set_option linter.unusedVariables false
def CheckC : Prop := ∀ (g : Gr) (v : Value) (w : World), Small g → GO g v w → Calls Try.prog 29 #[v] w fun e w' => e = .returned (.int .i64 (faultG g)) ∧ Below w.heap.size w w'
def SameC : Prop := ∀ (g h : Gr) (v u : Value) (w : World), Small g → Small h → GO g v w → GO h u w → Calls Try.prog 31 #[v, u] w fun e w' => e = .returned (.bool (sameG g h)) ∧ Below w.heap.size w w'
def CopyC : Prop := ∀ (g : Gr) (v : Value) (w : World), Small g → GO g v w → Calls Try.prog 33 #[v] w fun e w' => ∃ u, e = .returned u ∧ GO g u w' ∧ Below w.heap.size w w'
end Go.Proofs.Ytbphhcjepeamcaa
