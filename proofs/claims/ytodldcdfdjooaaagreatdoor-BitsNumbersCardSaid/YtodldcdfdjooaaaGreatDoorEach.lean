/- The reference's each over two lists of states, with a function that leaves the world alone. -/
import Derived.Test.YtodldcdfdjooaaaGreatDoorResClo
import Derived.Test.YtodldcdfdjooaaaGreatDoorRelC
namespace Go.Proofs.YtodldcdfdjooaaaGreatDoor
open Go Go.RowKit Go.Sort
set_option linter.unusedVariables false
theorem zw_snoc (f : UInt8 → UInt8 → UInt8) {l m : List UInt8} {k : Nat} (h : k < l.length) (h' : k < m.length) : List.zipWith f (l.take (k + 1)) (m.take (k + 1)) = List.zipWith f (l.take k) (m.take k) ++ [f l[k] m[k]] := by
  rw [List.take_succ_eq_append_getElem h, List.take_succ_eq_append_getElem h', List.zipWith_append (by rw [List.length_take, List.length_take]; omega)]; rfl
theorem zw_len (f : UInt8 → UInt8 → UInt8) {l m : List UInt8} {k : Nat} (h : k ≤ l.length) (h' : k ≤ m.length) : (List.zipWith f (l.take k) (m.take k)).length = k := by
  rw [List.length_zipWith, List.length_take, List.length_take]; omega
/-- what a condition chooses of two lists -/
def choL (c l m : List UInt8) : List UInt8 := if truthL c = 116 then l else if truthL c = 102 then m else List.zipWith chB l m
end Go.Proofs.YtodldcdfdjooaaaGreatDoor
