/- What is asked of the program's functions on graphs, whatever the code does: by what the reference answers. No condition. -/
import Derived.Test.YtcpifmhcebfglaaGrSr
import Derived.Test.YtcpifmhcebfglaaGrHh
import Derived.Test.YtcpifmhcebfglaaGrBl
namespace Go.Proofs.Ytcpifmhcebfglaa
open Go Go.RowKit Go.Sort
set_option linter.unusedVariables false
/-- the fact of the laws -/
def FactC : Prop := ∀ w : World, Calls Try.prog 58 #[] w fun e w' => e = .returned (.bool true) ∧ Below w.heap.size w w'
def levelsR (g : Gr) : List Int := if faultG g = 0 then htsL g g.ands.length else []
def depthR (g : Gr) : Int := if faultG g = 0 then heightG g else 0
theorem Arr.rowOf {t : TypeId} {α : Type} [Inhabited α] {f : α → Value} {g : Nat} {l : List α} {w : World} (h : Arr t f g l w) (n : Nat) (hn : l.length = n) : RowOf 1 (fun x => [f x]) l (.slice (some ⟨g, 0, none⟩) n n) w := by
  subst hn
  refine ⟨_, _, rfl, Nat.le_refl _, .inr ⟨g, 0, rfl, fun j hj c x hx => ?_⟩⟩
  match c, hx with
  | 0, hx =>
    simp only [List.getElem?_cons_zero, Option.some.injEq] at hx
    subst hx
    simpa using h.cell hj
  | c + 1, hx => simp at hx
def LevelsC : Prop := ∀ (g : Gr) (v : Value) (w : World), Small g → GO g v w → Calls Try.prog 61 #[v] w fun e w' => ∃ vl, e = .returned (.tuple #[vl, .int .i64 (faultG g)]) ∧ RowOf 1 encI (levelsR g) vl w' ∧ Below w.heap.size w w'
def DepthC : Prop := ∀ (g : Gr) (v : Value) (w : World), Small g → GO g v w → Calls Try.prog 62 #[v] w fun e w' => e = .returned (.tuple #[.int .i64 (depthR g), .int .i64 (faultG g)]) ∧ Below w.heap.size w w'
end Go.Proofs.Ytcpifmhcebfglaa
