/- What is asked of Name and Names. No condition. -/
import Derived.Test.YtbphhcjepeamcaaGlC
namespace Go.Proofs.Ytbphhcjepeamcaa
open Go Go.RowKit Go.Sort
set_option linter.unusedVariables false
def NameC : Prop := ∀ (s : ByteArray) (w : World), s.size ≤ 4000000000 → Calls Try.prog 25 #[.string s] w fun e w' => e = .returned (.bool (nmB s)) ∧ Below w.heap.size w w'
def NamesC : Prop := ∀ (l : List ByteArray) (v : Value) (w : World), l.length ≤ 4000000000 → (∀ x ∈ l, x.size ≤ 4000000000) → RowOf 1 encT l v w → Calls Try.prog 27 #[v] w fun e w' => e = .returned (.int .i64 (namesF l)) ∧ Below w.heap.size w w'
end Go.Proofs.Ytbphhcjepeamcaa
