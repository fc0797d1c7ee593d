/- The contracts of the library functions that the program calls, taken over from the library's own theorems at this program's numbers. -/
import Derived.Shelf.SlSorted.Search
import Derived.Test.YtfnkablbcalclaaGreatDoorProg
namespace Go.Proofs
open Go.Shelf
def Tryz.search_ren : Go.Shelf.Ren := ⟨fun | 16 => 61 | n => n, fun | 3 => 3 | 35 => 73 | 4 => 4 | 38 => 70 | n => n, fun | n => n⟩
theorem Tryz.search : Go.Proofs.SlLaysO.n16 Tryz.prog Tryz.search_ren := {
  mixed := by kernel_rfl
  f16 := Tryz.func61.trans (congrArg some (by kernel_rfl))
  t3 := Tryz.underlying3
  a3 := Tryz.isAgg3
  z3 := Tryz.sizeOf3
  v3 := Tryz.zeroValue3
  t4 := Tryz.underlying4
  a4 := Tryz.isAgg4
  z4 := Tryz.sizeOf4
  v4 := Tryz.zeroValue4
  t35 := Tryz.underlying73
  a35 := Tryz.isAgg73
  z35 := Tryz.sizeOf73
  v35 := Tryz.zeroValue73
  t38 := Tryz.underlying70
  a38 := Tryz.isAgg70
  z38 := Tryz.sizeOf70
  v38 := Tryz.zeroValue70 }
end Go.Proofs
