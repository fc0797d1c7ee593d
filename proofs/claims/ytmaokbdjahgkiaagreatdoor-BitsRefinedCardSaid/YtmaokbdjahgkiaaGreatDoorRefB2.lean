/- The reference's B of any list of states; what the walk of drawn regions keeps of slices of bytes. -/
import Derived.Test.YtmaokbdjahgkiaaGreatDoorRefB
import Derived.Test.YtmaokbdjahgkiaaGreatDoorRefValid
import Derived.Test.YtmaokbdjahgkiaaGreatDoorRaw
import Derived.Test.YtmaokbdjahgkiaaGreatDoorRelC
namespace Go.Proofs.YtmaokbdjahgkiaaGreatDoor
open Go Go.RowKit Go.Sort
set_option linter.unusedVariables false
/-- the vector of a list of states -/
def Bl (l : List UInt8) : Rb := if 1 ≤ l.length ∧ l.length ≤ 64 then ⟨l.length, bvw l l.length, bxw l l.length⟩ else ⟨0, 0#64, 0#64⟩
abbrev Rb.agg (r : Rb) : Value := .agg #[.int .i64 r.W, .int .u64 (U r.v), .int .u64 (U r.x)]
/-- a valid vector's states make the vector again -/
theorem Bl_vl {n : Nat} {a : Vx} (ha : a.ok n) : Bl (vl a n) = ⟨n, a.v, a.x⟩ := by
  unfold Bl
  rw [if_pos (by rw [vl_len]; exact ⟨ha.lo, ha.hi⟩), vl_len, bvw_vl ha, bxw_vl ha]
theorem row8_sta (l : List UInt8) : Sta (fun v w => Row8 w v l) := fun _ _ _ h hb => h.below hb
/-- a list of states that are those of a vector -/
theorem Bl_map {n : Nat} {a : Vx} (ha : a.ok n) {l : List UInt8} (h : l = vl a n) : Bl l = ⟨n, a.v, a.x⟩ := by rw [h, Bl_vl ha]
end Go.Proofs.YtmaokbdjahgkiaaGreatDoor
