/- Package note: the text of a valid message is read back. -/
import Derived.Test.YtmememehlfbgaaaDoorNoteMath2
namespace Go.Proofs.YtmememehlfbgaaaDoor
open Go Go.RowKit
set_option linter.unusedVariables false
abbrev Mx (w : World) : Prop := ∃ m : Int, w.cell? ⟨0, 0, none⟩ = some (.int .i64 m)
theorem Mx.on {B : Nat} {w w' : World} (h : Mx w) (hb : Below B w w') (hB : 0 < B) : Mx w' := by
  obtain ⟨m, hm⟩ := h
  exact ⟨m, (hb.cell (p := ⟨0, 0, none⟩) hB).trans hm⟩
theorem Mx.lt {w : World} (h : Mx w) : 0 < w.heap.size := by obtain ⟨m, hm⟩ := h; exact World.block_lt_of_cell? w _ hm
theorem Mx.here {w w' : World} (h : Mx w) (hb : Below w.heap.size w w') : Mx w' := h.on hb h.lt
/-- the tail of a message's text -/
def tailL (t : ByteArray) : List UInt8 := if t.toList.isEmpty then [] else 32 :: t.data.toList
theorem ba_list (l : List UInt8) : (⟨l.toArray⟩ : ByteArray).data.toList = l := by simp
theorem ba_size (l : List UInt8) : (⟨l.toArray⟩ : ByteArray).size = l.length := by show l.toArray.size = _; simp
end Go.Proofs.YtmememehlfbgaaaDoor
