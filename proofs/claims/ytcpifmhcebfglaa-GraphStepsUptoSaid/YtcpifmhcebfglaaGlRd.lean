/- What is asked of Run. No condition. -/
import Derived.Test.YtcpifmhcebfglaaGlC
namespace Go.Proofs.Ytcpifmhcebfglaa
open Go Go.RowKit Go.Sort
set_option linter.unusedVariables false
def runE (g : Gr) (l : List (List Bool)) : Int := if faultG g = 0 then tfL l g.ins.length else faultG g
def runR (g : Gr) (l : List (List Bool)) : List (List Bool) := if runE g l = 0 then playL g (beginL g) l else []
def RunC : Prop := ∀ (g : Gr) (v : Value) (l : List (List Bool)) (vt : Value) (w : World), Small g → l.length ≤ 4000000000 → (∀ r ∈ l, r.length ≤ 4000000000) → GO g v w → TR l vt w → Calls Try.prog 18 #[v, vt] w fun e w' => ∃ vl, e = .returned (.tuple #[vl, .int .i64 (runE g l)]) ∧ TR (runR g l) vl w' ∧ Below w.heap.size w w'
end Go.Proofs.Ytcpifmhcebfglaa
