/- The reference of package note: within, FileName, NoteWord, NoteFault. -/
import Derived.Test.YtmememehlfbgaaaDoorNoteC
import Derived.Lib.QuietBelow
import Derived.LoopTactic
namespace Go.Proofs.YtmememehlfbgaaaDoor
open Go Go.RowKit Go.Sort
set_option linter.unusedVariables false
theorem all_ne {l : List UInt8} {c : UInt8} {m : Nat} (h : m < l.length) (h1 : ∀ x ∈ l.take m, x ≠ c) (h2 : l[m] ≠ c) : ∀ x ∈ l.take (m + 1), x ≠ c := by
  intro x hx
  rw [List.take_succ_eq_append_getElem h] at hx
  rcases List.mem_append.1 hx with h3 | h3
  · exact h1 x h3
  · simp at h3; rw [h3]; exact h2
end Go.Proofs.YtmememehlfbgaaaDoor
