/- The reference's Fit. -/
import Derived.Test.YtodldcdfdjooaaaGreatDoorRefs
import Derived.Lib.QuietBelow
namespace Go.Proofs.YtodldcdfdjooaaaGreatDoor
open Go Go.RowKit
set_option linter.unusedVariables false
def fitB (kind : Int) (x y : UInt8) : Bool :=
  if kind = 0 then x == y else if kind = 1 then x == 122 || y == 122 || x == y else x == 122 || y == 122 || x == 120 || y == 120 || x == y
def fitL (kind : Int) (l m : List UInt8) : Bool := (l.zip m).all fun p => fitB kind p.1 p.2
theorem fitL_out {kind : Int} {l m : List UInt8} {k : Nat} (h : k < l.length) (h' : k < m.length) (hf : fitB kind l[k] m[k] = false) : fitL kind l m = false := by
  unfold fitL
  apply List.all_eq_false.2
  have hz : k < (l.zip m).length := by rw [List.length_zip]; omega
  refine ⟨(l.zip m)[k], List.getElem_mem hz, ?_⟩
  rw [List.getElem_zip]
  simp [hf]
theorem fitL_snoc {kind : Int} {l m : List UInt8} {k : Nat} (h : k < l.length) (h' : k < m.length) (h0 : fitL kind (l.take k) (m.take k) = true) (hf : fitB kind l[k] m[k] = true) : fitL kind (l.take (k + 1)) (m.take (k + 1)) = true := by
  unfold fitL at h0 ⊢
  rw [List.take_succ_eq_append_getElem h, List.take_succ_eq_append_getElem h', List.zip_append (by rw [List.length_take, List.length_take]; omega), List.all_append, h0]
  simp [hf]
end Go.Proofs.YtodldcdfdjooaaaGreatDoor
