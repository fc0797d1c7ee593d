/- Graphs that are equal: the reference. -/
import Derived.Test.YtcpifmhcebfglaaGrEq
namespace Go.Proofs.Ytcpifmhcebfglaa
open Go Go.RowKit
set_option linter.unusedVariables false
/-- two graphs are equal -/
def sameG (g h : Gr) : Bool := decide (g.ins = h.ins) && decide (g.outN = h.outN) && decide (g.outs = h.outs) && decide (g.regs = h.regs) && decide (g.ands = h.ands)
theorem sameG_iff {g h : Gr} : sameG g h = true ↔ g = h := by
  unfold sameG
  cases g; cases h
  simp only [Bool.and_eq_true, decide_eq_true_eq, Gr.mk.injEq]
  constructor
  · rintro ⟨⟨⟨⟨h1, h2⟩, h3⟩, h4⟩, h5⟩; exact ⟨h1, h2, h4, h5, h3⟩
  · rintro ⟨h1, h2, h4, h5, h3⟩; exact ⟨⟨⟨⟨h1, h2⟩, h3⟩, h4⟩, h5⟩
/-- a graph with rows of no more than so many elements -/
structure Small (g : Gr) : Prop where
  ins : g.ins.length ≤ 4000000000
  outN : g.outN.length ≤ 4000000000
  regs : g.regs.length ≤ 4000000000
  ands : g.ands.length ≤ 4000000000
  outs : g.outs.length ≤ 4000000000
  insT : ∀ x ∈ g.ins, x.size ≤ 9000000000000000000
  outT : ∀ x ∈ g.outN, x.size ≤ 9000000000000000000
  regT : ∀ x ∈ g.regs, x.nm.size ≤ 9000000000000000000
end Go.Proofs.Ytcpifmhcebfglaa
