/- The reference's lists of states: V of a valid vector. -/
import Derived.Test.YtmaokbdjahgkiaaGreatDoorText2
import Derived.Test.YtmaokbdjahgkiaaGreatDoorPut3
namespace Go.Proofs.YtmaokbdjahgkiaaGreatDoor
open Go Go.RowKit
set_option linter.unusedVariables false
/-- the states of the first k bits, the lowest first -/
def vl (a : Vx) (k : Nat) : List UInt8 := (List.range k).map (st a)
theorem vl_succ (a : Vx) (k : Nat) : vl a (k + 1) = vl a k ++ [st a k] := by unfold vl; rw [List.range_succ]; simp
theorem vl_len (a : Vx) (k : Nat) : (vl a k).length = k := by unfold vl; simp
theorem bit_one (v : BitVec 64) (i : Nat) (hi : i < 64) : (v >>> i &&& 1#64 == 1#64) = v.getLsbD i := by
  have e : v >>> i &&& 1#64 = if v.getLsbD i then 1#64 else 0#64 := by
    apply BitVec.eq_of_getLsbD_eq
    intro j hj
    rw [BitVec.getLsbD_and, BitVec.getLsbD_ushiftRight]
    by_cases h0 : j = 0
    · subst h0; cases h : v.getLsbD i <;> simp [h]
    · have h1 : (1#64).getLsbD j = false := by
        rw [BitVec.getLsbD_one]; simp [h0]
      rw [h1, Bool.and_false]
      split
      · exact h1.symm
      · simp
  rw [e]; cases v.getLsbD i <;> decide
end Go.Proofs.YtmaokbdjahgkiaaGreatDoor
