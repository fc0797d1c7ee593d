/- The examples behind the laws of package maskkeep3 on graphs and netlists, run by the rules: true, in whatever memory. No condition. -/
import Derived.Test.YtcpifmhcebfglaaEvY
import Derived.Test.YtcpifmhcebfglaaProg
namespace Go.Proofs.Ytcpifmhcebfglaa
open Go Go.RowKit
set_option linter.unusedVariables false
set_option maxRecDepth 1000000
theorem noNum : NoNum Try.prog := by
  have h : (Try.prog.funcs.all fun fn => !(fn.name == "runtime.NumGoroutine")) = true := by decide +kernel
  intro g fn e
  simpa using Array.all_eq_true_iff_forall_mem.1 h fn (Array.mem_of_getElem? e)
def isT (x : Option (AV × Hp × Nat × List Nat)) : Bool :=
  match x with
  | some (.c (.bool b), _) => b
  | _ => false
theorem isT_some {x : Option (AV × Hp × Nat × List Nat)} (e : isT x = true) : ∃ h n u, x = some (.c (.bool true), h, n, u) := by
  unfold isT at e
  split at e
  · rename_i b q
    subst e
    exact ⟨_, _, _, rfl⟩
  · cases e
theorem gr_none (B : Nat) (w : World) : GR (fun _ => none) B w := fun g l e => by cases e
set_option maxHeartbeats 8000000 in
theorem graphs3_ok (w : World) : Calls Try.prog 19 #[] w fun e w' => e = .returned (.bool true) ∧ Below w.heap.size w w' := by
  have h : isT (zzK Try.prog (fun _ => none) 100000 (.fn 19) [] .nil 0) = true := by decide +kernel
  obtain ⟨hh, n, u, e⟩ := isT_some h
  exact run_closed2 (args := []) noNum (by kernel_rfl) 100000 e w (gr_none _ w)
set_option maxHeartbeats 8000000 in
theorem nets_ok (w : World) : Calls Try.prog 46 #[] w fun e w' => e = .returned (.bool true) ∧ Below w.heap.size w w' := by
  have h : isT (zzK Try.prog (fun _ => none) 100000 (.fn 46) [] .nil 0) = true := by decide +kernel
  obtain ⟨hh, n, u, e⟩ := isT_some h
  exact run_closed2 (args := []) noNum (by kernel_rfl) 100000 e w (gr_none _ w)
end Go.Proofs.Ytcpifmhcebfglaa
