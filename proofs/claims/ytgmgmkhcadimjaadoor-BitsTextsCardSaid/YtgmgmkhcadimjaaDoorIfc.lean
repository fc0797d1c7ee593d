/- What a row's first world says of strconv.ErrRange: its cell holds a value with its type. -/
import Derived.Test.YtgmgmkhcadimjaaDoorRow
import Derived.Stop.LaidErr
namespace Go.Proofs.YtgmgmkhcadimjaaDoor
open Go.ChangeShapes Go.WideShapes Go.ChangeAt Go.RowKit
set_option linter.unusedVariables false
theorem starName : "*" ++ "errors.errorString" = "*errors.errorString" := by decide
set_option maxRecDepth 100000 in
theorem errName (u : TypeId) (h : Tryd.prog.typeName? 3 u = some "*errors.errorString") : u = 108 :=
  typeName_ptr_named (nm := "errors.errorString") (by rw [starName]; kernel_rfl) (by kernel_rfl) (by decide) u (by rw [starName]; exact h)
set_option maxRecDepth 100000 in
theorem errRange_cell {W : World} (hL : laidMetH Tryd.prog laid5 W) : ∃ ev, W.cell? ⟨2, 0, none⟩ = some ev ∧ (ev = .nilIface ∨ ∃ te pe, ev = .iface te pe) := by
  rw [MakeChecks.laidMetH_plain _ _ _ (by kernel_rfl)] at hL
  have h3 := laidMet.tail (laidMet.tail (laidMet.tail hL))
  obtain ⟨a, s, hv, hc, hs, hz⟩ := laid_sentinel h3 (g := 2) (by kernel_rfl) (by kernel_rfl) Tryd.underlying61 errName Tryd.underlying108 Tryd.underlying110 rfl rfl Tryd.underlying9 (by kernel_rfl) (by kernel_rfl)
  have h := World.var?_cell (P := Tryd.prog) (g := 2) (by kernel_rfl) hv 0
  exact ⟨_, h, .inr ⟨_, _, rfl⟩⟩
end Go.Proofs.YtgmgmkhcadimjaaDoor
