/- What is asked of Prefix. No condition. -/
import Derived.Test.YtbphhcjepeamcaaGlC
import Derived.Test.YtbphhcjepeamcaaGlNil
namespace Go.Proofs.Ytbphhcjepeamcaa
open Go Go.RowKit Go.Sort
set_option linter.unusedVariables false
def prefG (g : Gr) (s : ByteArray) : Gr := ⟨g.ins, g.outN.map (s ++ ·), g.regs.map (fun r => ⟨s ++ r.nm, r.nx, r.it⟩), g.ands, g.outs⟩
def prefE (g : Gr) (s : ByteArray) : Int := if faultG g = 0 then (if 128 < s.size then 9 else faultG (prefG g s)) else faultG g
def prefR (g : Gr) (s : ByteArray) : Gr := if prefE g s = 0 then prefG g s else nilG
def PrefixC : Prop := ∀ (g : Gr) (v : Value) (s : ByteArray) (w : World), Small g → s.size ≤ 4000000000 → (∀ x ∈ g.outN, x.size ≤ 4000000000) → (∀ r ∈ g.regs, r.nm.size ≤ 4000000000) → GO g v w → Calls Try.prog 61 #[v, .string s] w fun e w' => ∃ u, e = .returned (.tuple #[u, .int .i64 (prefE g s)]) ∧ GO (prefR g s) u w' ∧ Below w.heap.size w w'
end Go.Proofs.Ytbphhcjepeamcaa
