/- The empty graph. No condition. -/
import Derived.Test.YtbphhcjepeamcaaGrSg
namespace Go.Proofs.Ytbphhcjepeamcaa
open Go Go.RowKit
set_option linter.unusedVariables false
def nilG : Gr := ⟨[], [], [], [], []⟩
theorem nil_go (w : World) : GO nilG (.agg #[.slice none 0 0, .slice none 0 0, .slice none 0 0, .slice none 0 0, .slice none 0 0]) w :=
  ⟨⟨none, none, none, none, none, 0, 0, 0, 0, 0, rfl, ⟨Nat.le_refl _, Nat.le_refl _, Nat.le_refl _, Nat.le_refl _, Nat.le_refl _, fun _ => rfl, fun _ => rfl, fun _ => rfl, fun _ => rfl, fun _ => rfl⟩, ⟨.inl rfl, .inl rfl, .inl rfl, .inl rfl, .inl rfl⟩⟩⟩
theorem nil_small : Small nilG := ⟨by decide, by decide, by decide, by decide, by decide, (fun x h => by cases h), (fun x h => by cases h), (fun x h => by cases h)⟩
/-- an empty graph is one in any memory -/
theorem nil_at {v : Value} {w : World} (h : GO nilG v w) : ∀ w', GO nilG v w' := fun w' => by
  obtain ⟨a, b, c, d, e, a', b', c', d', e', h1, h2, _⟩ := h.all
  exact ⟨⟨a, b, c, d, e, a', b', c', d', e', h1, h2, ⟨.inl rfl, .inl rfl, .inl rfl, .inl rfl, .inl rfl⟩⟩⟩
theorem same_self2 (g : Gr) : sameG g g = true := sameG_iff.2 rfl
end Go.Proofs.Ytbphhcjepeamcaa
