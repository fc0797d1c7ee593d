/- What is asked of Values and Words. No condition. -/
import Derived.Test.YtcpifmhcebfglaaGlEd
namespace Go.Proofs.Ytcpifmhcebfglaa
open Go Go.RowKit Go.Sort
set_option linter.unusedVariables false
def isW (L : List Int) : Prop := ∀ n ∈ L, 0 ≤ n ∧ n < 18446744073709551616
/-- the values of all nodes in each lane -/
structure ValsOk (g : Gr) (ins st L : List Int) : Prop where
  wd : isW L
  yes : widE g ins.length st.length = 0 → L.length = n0L g + g.ands.length ∧ ∀ k, k < 64 → L.map (colB k) = valsG g (false :: (ins.map (colB k) ++ st.map (colB k)))
  no : widE g ins.length st.length ≠ 0 → L = []
/-- what is shown and what follows in each lane -/
structure WordsOk (g : Gr) (ins st O N : List Int) : Prop where
  wo : isW O
  wn : isW N
  yes : widE g ins.length st.length = 0 → ∀ k, k < 64 → O.map (colB k) = shows g (ins.map (colB k)) (st.map (colB k)) ∧ N.map (colB k) = nexts g (ins.map (colB k)) (st.map (colB k))
  no : widE g ins.length st.length ≠ 0 → O = [] ∧ N = []
def ValuesC : Prop := ∀ (g : Gr) (v : Value) (ins st : List Int) (vi vs : Value) (w : World), Small g → ins.length ≤ 4000000000 → st.length ≤ 4000000000 → isW ins → isW st → GO g v w → RowC (fun n => Value.int .u64 n) ins vi w → RowC (fun n => Value.int .u64 n) st vs w → Calls Try.prog 77 #[v, vi, vs] w fun e w' => ∃ vv L, e = .returned (.tuple #[vv, .int .i64 (widE g ins.length st.length)]) ∧ RowOf 1 encU L vv w' ∧ ValsOk g ins st L ∧ Below w.heap.size w w'
def WordsC : Prop := ∀ (g : Gr) (v : Value) (ins st : List Int) (vi vs : Value) (w : World), Small g → ins.length ≤ 4000000000 → st.length ≤ 4000000000 → isW ins → isW st → GO g v w → RowC (fun n => Value.int .u64 n) ins vi w → RowC (fun n => Value.int .u64 n) st vs w → Calls Try.prog 23 #[v, vi, vs] w fun e w' => ∃ vo vn O N, e = .returned (.tuple #[vo, vn, .int .i64 (widE g ins.length st.length)]) ∧ RowOf 1 encU O vo w' ∧ RowOf 1 encU N vn w' ∧ WordsOk g ins st O N ∧ Below w.heap.size w w'
end Go.Proofs.Ytcpifmhcebfglaa
