/- What is asked of Eval, Lanes, Lane and Init. No condition. -/
import Derived.Test.YtcpifmhcebfglaaGlC
namespace Go.Proofs.Ytcpifmhcebfglaa
open Go Go.RowKit Go.Sort
set_option linter.unusedVariables false
def widE (g : Gr) (n m : Int) : Int := if faultG g = 0 then (if n = (g.ins.length : Int) ∧ m = (g.regs.length : Int) then 0 else 20) else faultG g
abbrev encU : Int → List Value := fun n => [.int .u64 n]
def evO (g : Gr) (ins st : List Bool) : List Bool := if widE g ins.length st.length = 0 then shows g ins st else []
def evN (g : Gr) (ins st : List Bool) : List Bool := if widE g ins.length st.length = 0 then nexts g ins st else []
def lanesL (l : List Bool) : List Int := l.map fun b => if b = true then 1 else 0
def EvalC : Prop := ∀ (g : Gr) (v : Value) (ins st : List Bool) (vi vs : Value) (w : World), Small g → ins.length ≤ 4000000000 → st.length ≤ 4000000000 → GO g v w → RowC (fun b => Value.bool b) ins vi w → RowC (fun b => Value.bool b) st vs w → Calls Try.prog 21 #[v, vi, vs] w fun e w' => ∃ vo vn, e = .returned (.tuple #[vo, vn, .int .i64 (widE g ins.length st.length)]) ∧ RowOf 1 encB (evO g ins st) vo w' ∧ RowOf 1 encB (evN g ins st) vn w' ∧ Below w.heap.size w w'
def LanesC : Prop := ∀ (l : List Bool) (v : Value) (w : World), l.length ≤ 4000000000 → RowC (fun b => Value.bool b) l v w → Calls Try.prog 44 #[v] w fun e w' => ∃ vo, e = .returned vo ∧ RowOf 1 encU (lanesL l) vo w' ∧ Below w.heap.size w w'
def LaneC : Prop := ∀ (l : List Int) (v : Value) (w : World), l.length ≤ 4000000000 → (∀ n ∈ l, 0 ≤ n ∧ n < 18446744073709551616) → RowOf 1 encU l v w → Calls Try.prog 74 #[v] w fun e w' => ∃ vo, e = .returned vo ∧ RowOf 1 encB (l.map (colB 0)) vo w' ∧ Below w.heap.size w w'
def InitC : Prop := ∀ (g : Gr) (v : Value) (w : World), Small g → GO g v w → Calls Try.prog 20 #[v] w fun e w' => ∃ vo, e = .returned vo ∧ RowOf 1 encB (beginL g) vo w' ∧ Below w.heap.size w w'
end Go.Proofs.Ytcpifmhcebfglaa
