/- What was put is found again. No program here. -/
import Derived.Test.YtdpmojkpfnkcdaaDoorParts
import Derived.Test.YtdpmojkpfnkcdaaDoorReread
namespace Go.Proofs.YtdpmojkpfnkcdaaDoor
open Go Go.RowKit
set_option linter.unusedVariables false
theorem found {n m k : Nat} {a b : Vx} (ha : a.ok n) (hb : b.ok m) (hk : k + m ≤ n) : vslice k m (vput n m a k b) = b := by
  have h64 := ha.hi
  refine Vx.same (vslice_ok hb.lo hb.hi _ _) hb ?_
  intro i hi
  have hv := vput_v ha.hi hb.hi a b (k := k) (k + i) (by omega)
  have hx := vput_x ha.hi hb.hi a b (k := k) (k + i) (by omega)
  rw [if_pos ⟨by omega, by omega⟩, show k + i - k = i by omega] at hv hx
  simp [vslice, msk_bit hb.hi, hi, hv, hx]
theorem put_back {n m k : Nat} {a b : Vx} (ha : a.ok n) (hb : b.ok m) (hk : k + m ≤ n) : vput n m (vput n m a k b) k (vslice k m a) = a := by
  have h64 := ha.hi
  refine Vx.same (vput_ok (vput_ok ha)) ha ?_
  intro i hi
  rw [vput_v ha.hi hb.hi _ _ i hi, vput_x ha.hi hb.hi _ _ i hi, vput_v ha.hi hb.hi _ _ i hi, vput_x ha.hi hb.hi _ _ i hi]
  by_cases c : k ≤ i ∧ i < k + m
  · simp [c, vslice, msk_bit hb.hi, show i - k < m by omega, show k + (i - k) = i by omega]
  · simp [c]
end Go.Proofs.YtdpmojkpfnkcdaaDoor
