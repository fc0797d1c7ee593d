/- The nodes that roots need: the reference's Below. -/
import Derived.Test.YtcpifmhcebfglaaMgBe
import Derived.Test.YtcpifmhcebfglaaGrHt
import Derived.Laws.EntriesVeiled
namespace Go.Proofs.Ytcpifmhcebfglaa
open Go Go.RowKit Go.Sort
set_option linter.unusedVariables false
def belowL (g : Gr) (M : List Bool) (l : Int) : List Bool := markL g (n0L g + g.ands.length) M l
def belowG (g : Gr) (rs : List Int) : List Bool := rs.foldl (belowL g) (List.replicate (n0L g + g.ands.length) false)
theorem belowL_len (g : Gr) (M : List Bool) (l : Int) : (belowL g M l).length = M.length := markL_len g _ M l
theorem belows_len (g : Gr) : ∀ (rs : List Int) (M : List Bool), (rs.foldl (belowL g) M).length = M.length
  | [], M => rfl
  | r :: rs, M => by rw [List.foldl_cons, belows_len g rs, belowL_len]
theorem infoBo : (Try.prog.info? 4).map (fun i => (i.zero, i.size, i.bytes)) = some (some (.bool false), 1, 1) := by kernel_rfl
theorem infoBo_parts : ∃ i, Try.prog.info? 4 = some i ∧ i.zero = some (.bool false) ∧ i.size = 1 ∧ i.bytes = 1 := by
  have h := infoBo
  cases hi : Try.prog.info? 4 with
  | none => rw [hi] at h; cases h
  | some i =>
    rw [hi] at h
    simp only [Option.map_some, Option.some.injEq, Prod.mk.injEq] at h
    exact ⟨i, rfl, h.1, h.2.1, h.2.2⟩
end Go.Proofs.Ytcpifmhcebfglaa
