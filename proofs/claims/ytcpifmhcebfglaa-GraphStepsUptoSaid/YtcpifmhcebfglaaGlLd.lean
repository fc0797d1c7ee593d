/- What is asked of Make, Node, Inverted, Not, First, Nodes and Roots. No condition. -/
import Derived.Test.YtcpifmhcebfglaaGlC
import Derived.Test.YtcpifmhcebfglaaGrIs
namespace Go.Proofs.Ytcpifmhcebfglaa
open Go Go.RowKit Go.Sort
set_option linter.unusedVariables false
def I64 (n : Int) : Prop := -9223372036854775808 ≤ n ∧ n ≤ 9223372036854775807
def makeL (n : Int) (b : Bool) : Int := if 0 ≤ n ∧ n ≤ 4416 then 2 * n + (if b = true then 1 else 0) else 0
def nodeL (l : Int) : Int := if 0 ≤ l then l / 2 else -1
def invL (l : Int) : Bool := decide (0 ≤ l) && decide (l % 2 = 1)
def notL (l : Int) : Int := if 0 ≤ l then bits BinOp.xor IntKind.i64 l 1 else l
def NodeC : Prop := ∀ (l : Int) (w : World), I64 l → Calls Try.prog 86 #[.int .i64 l] w fun e w' => e = .returned (.int .i64 (nodeL l)) ∧ Below w.heap.size w w'
def InvC : Prop := ∀ (l : Int) (w : World), I64 l → Calls Try.prog 183 #[.int .i64 l] w fun e w' => e = .returned (.bool (invL l)) ∧ Below w.heap.size w w'
def NotC : Prop := ∀ (l : Int) (w : World), I64 l → Calls Try.prog 154 #[.int .i64 l] w fun e w' => e = .returned (.int .i64 (notL l)) ∧ Below w.heap.size w w'
def FirstC : Prop := ∀ (g : Gr) (v : Value) (w : World), Small g → GO g v w → Calls Try.prog 83 #[v] w fun e w' => e = .returned (.int .i64 (1 + (g.ins.length : Int) + (g.regs.length : Int))) ∧ Below w.heap.size w w'
def NodesC : Prop := ∀ (g : Gr) (v : Value) (w : World), Small g → GO g v w → Calls Try.prog 138 #[v] w fun e w' => e = .returned (.int .i64 (1 + (g.ins.length : Int) + (g.regs.length : Int) + (g.ands.length : Int))) ∧ Below w.heap.size w w'
def RootsC : Prop := ∀ (g : Gr) (v : Value) (w : World), Small g → GO g v w → Calls Try.prog 81 #[v] w fun e w' => ∃ u, e = .returned u ∧ RowOf 1 encI (goalsL g) u w' ∧ Below w.heap.size w w'
end Go.Proofs.Ytcpifmhcebfglaa
