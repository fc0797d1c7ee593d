/- Shifts of vectors, joined. No program here. -/
import Derived.Test.YtmaokbdjahgkiaaGreatDoorArith
import Derived.Test.YtmaokbdjahgkiaaGreatDoorOrder
namespace Go.Proofs.YtmaokbdjahgkiaaGreatDoor
open Go Go.RowKit
set_option linter.unusedVariables false
theorem vshl_vshl {n : Nat} (h1 : 1 ≤ n) (h : n ≤ 64) (a : Vx) (j k : Nat) : vshl n (vshl n a j) k = vshl n a (j + k) := by
  refine Vx.same (vshl_ok h1 h _ _) (vshl_ok h1 h _ _) ?_
  intro i hi
  by_cases c : i < k
  · simp [vshl, msk_bit h, hi, c, show i < j + k by omega]
  · by_cases c2 : i - k < j
    · simp [vshl, msk_bit h, hi, c, show i < j + k by omega, c2]
    · simp only [vshl, BitVec.getLsbD_and, BitVec.getLsbD_shiftLeft, msk_bit h, hi, c, show ¬ i < j + k by omega, c2, show i < 64 by omega, show i - k < 64 by omega, show i - k < n by omega, show i - k - j = i - (j + k) by omega, decide_true, decide_false, Bool.not_false, Bool.true_and, Bool.and_true, and_self]
theorem law_shl {n : Nat} (h1 : 1 ≤ n) (h : n ≤ 64) (a : Vx) (k : Nat) : vshl n (vshl n a 1) k = vshl n (vshl n a k) 1 := by
  rw [vshl_vshl h1 h, vshl_vshl h1 h, Nat.add_comm]
theorem law_twice {n : Nat} {a : Vx} (h : n ≤ 64) (hx : a.x = 0#64) : vshl n a 1 = vop n (· + ·) a a := by
  rw [vop_kv _ hx hx]
  have e : a.v <<< 1 = a.v + a.v := by
    apply BitVec.eq_of_toNat_eq; rw [BitVec.toNat_shiftLeft, Nat.shiftLeft_eq, BitVec.toNat_add]; omega
  unfold vshl kv
  rw [hx, e]; simp
theorem tru_known {n : Nat} {a : Vx} (hx : a.x = 0#64) : (tru a = 0) = (a.v = 0#64) := by
  unfold tru; rw [hx, BitVec.or_zero]
  by_cases h : a.v = 0#64
  · rw [if_pos h]; simp [h]
  · rw [if_neg h]
    have e : a.v &&& ~~~0#64 = a.v := by apply BitVec.eq_of_getLsbD_eq; intro i hi; rw [BitVec.getLsbD_and, BitVec.getLsbD_not, BitVec.getLsbD_zero]; simp [hi]
    rw [e, if_neg h]; simp [h]
end Go.Proofs.YtmaokbdjahgkiaaGreatDoor
