/- The reference's Valid of a valid vector. -/
import Derived.Test.YtmaokbdjahgkiaaGreatDoorRefV
import Derived.Test.YtmaokbdjahgkiaaGreatDoorRaw
namespace Go.Proofs.YtmaokbdjahgkiaaGreatDoor
open Go Go.RowKit
set_option linter.unusedVariables false
theorem bit_zero (v : BitVec 64) (i : Nat) (h : v.getLsbD i = false) : v >>> i &&& 1#64 = 0#64 := by
  apply BitVec.eq_of_getLsbD_eq
  intro j hj
  rw [BitVec.getLsbD_and, BitVec.getLsbD_ushiftRight]
  by_cases h0 : j = 0
  · subst h0; simp [h]
  · have h1 : (1#64).getLsbD j = false := by rw [BitVec.getLsbD_one]; simp [h0]
    rw [h1, Bool.and_false]; simp
theorem bit_set (v : BitVec 64) (i : Nat) (hi : i < 64) (h : v.getLsbD i = true) : (v >>> i &&& 1#64 != 0#64) = true := by
  have e := bit_one v i hi
  rw [h] at e
  have e2 : v >>> i &&& 1#64 = 1#64 := by simpa using e
  rw [e2]; rfl
end Go.Proofs.YtmaokbdjahgkiaaGreatDoor
