/- The contracts of the library functions that the program calls, taken over from the library's own theorems at this program's numbers. -/
import Derived.Shelf.SlSorted.Search
import Derived.Test.YtogmipbdnffegaaGreatDoorProg
namespace Go.Proofs
open Go.Shelf
def Tryz.search_ren : Go.Shelf.Ren := ⟨fun | 16 => 42 | n => n, fun | 3 => 3 | 35 => 61 | 4 => 4 | 38 => 88 | n => n, fun | n => n⟩
theorem Tryz.search : Go.Proofs.SlLaysO.n16 Tryz.prog Tryz.search_ren := {
  mixed := by kernel_rfl
  f16 := Tryz.func42.trans (congrArg some (by kernel_rfl))
  t3 := Tryz.underlying3
  a3 := Tryz.isAgg3
  z3 := Tryz.sizeOf3
  v3 := Tryz.zeroValue3
  t4 := Tryz.underlying4
  a4 := Tryz.isAgg4
  z4 := Tryz.sizeOf4
  v4 := Tryz.zeroValue4
  t35 := Tryz.underlying61
  a35 := Tryz.isAgg61
  z35 := Tryz.sizeOf61
  v35 := Tryz.zeroValue61
  t38 := Tryz.underlying88
  a38 := Tryz.isAgg88
  z38 := Tryz.sizeOf88
  v38 := Tryz.zeroValue88 }
end Go.Proofs
