/- The reference's Resolved and Chosen of two vectors' states are Resolve and Cond of the words. -/
import Derived.Test.YtodldcdfdjooaaaGreatDoorFitMath
namespace Go.Proofs.YtodldcdfdjooaaaGreatDoor
open Go Go.RowKit
set_option linter.unusedVariables false
/-- what two drivers of a state make -/
def resB (x y : UInt8) : UInt8 := if x = 122 ∨ x = y then y else if y = 122 then x else 120
/-- what a condition that is not known leaves of two states -/
def chB (x y : UInt8) : UInt8 := if x = y ∧ (x = 48 ∨ x = 49) then x else 120
theorem zipWith_map_range {α β : Type} (h : α → α → β) (f g : Nat → α) (n : Nat) : List.zipWith h ((List.range n).map f) ((List.range n).map g) = (List.range n).map fun i => h (f i) (g i) := by
  rw [← List.map_uncurry_zip_eq_zipWith, zip_map_range, List.map_map]; rfl
theorem st_res (a b : Vx) (i : Nat) (h64 : i < 64) : resB (st a i) (st b i) = st (vres a b) i := by
  have e := decide_eq_true h64
  unfold st vres free1 diff1
  simp only [BitVec.getLsbD_or, BitVec.getLsbD_and, BitVec.getLsbD_not, BitVec.getLsbD_xor, e]
  cases a.v.getLsbD i <;> cases a.x.getLsbD i <;> cases b.v.getLsbD i <;> cases b.x.getLsbD i <;> decide
theorem res_vl {n : Nat} (a b : Vx) (hn : n ≤ 64) : List.zipWith resB (vl a n) (vl b n) = vl (vres a b) n := by
  unfold vl
  rw [zipWith_map_range]
  apply List.map_congr_left
  intro i hi
  exact st_res a b i (by have := List.mem_range.1 hi; omega)
theorem st_ch (n : Nat) (a b : Vx) (i : Nat) (hi : i < n) (hn : n ≤ 64) : chB (st a i) (st b i) = st (jn n (one1 a &&& one1 b) (zero1 n a &&& zero1 n b)) i := by
  have e := decide_eq_true (show i < 64 by omega)
  have em : (msk n).getLsbD i = true := by
    rw [msk_bit]; simp [hi]; omega
  unfold st jn unk one1 zero1
  simp only [BitVec.getLsbD_or, BitVec.getLsbD_and, BitVec.getLsbD_not, BitVec.getLsbD_xor, e, em]
  cases a.v.getLsbD i <;> cases a.x.getLsbD i <;> cases b.v.getLsbD i <;> cases b.x.getLsbD i <;> decide
theorem ch_vl {n : Nat} (a b : Vx) (hn : n ≤ 64) : List.zipWith chB (vl a n) (vl b n) = vl (jn n (one1 a &&& one1 b) (zero1 n a &&& zero1 n b)) n := by
  unfold vl
  rw [zipWith_map_range]
  apply List.map_congr_left
  intro i hi
  exact st_ch n a b i (List.mem_range.1 hi) hn
theorem truth_one (c : Vx) (m : Nat) : (vl c m).contains 49 = !((List.range m).all fun i => !(c.v.getLsbD i && !c.x.getLsbD i)) := by
  rw [Bool.eq_iff_iff, List.contains_iff_mem, Bool.not_eq_true', List.all_eq_false]
  unfold vl
  rw [List.mem_map]
  constructor
  · rintro ⟨i, hi, he⟩
    refine ⟨i, hi, ?_⟩
    unfold st at he
    revert he
    cases c.v.getLsbD i <;> cases c.x.getLsbD i <;> decide
  · rintro ⟨i, hi, he⟩
    refine ⟨i, hi, ?_⟩
    unfold st
    revert he
    cases c.v.getLsbD i <;> cases c.x.getLsbD i <;> decide
theorem truth_zero (c : Vx) (m : Nat) : ((vl c m).all (· == 48)) = (List.range m).all fun i => !(c.v.getLsbD i || c.x.getLsbD i) := by
  unfold vl
  rw [List.all_map]
  apply all_same
  intro i hi
  show (st c i == 48) = _
  unfold st
  cases c.v.getLsbD i <;> cases c.x.getLsbD i <;> decide
theorem truth_vl {m : Nat} {c : Vx} (hc : c.ok m) : truthL (vl c m) = if tru c = 0 then 102 else if tru c = 1 then 116 else 117 := by
  have z1 : (c.v ||| c.x == 0#64) = (List.range m).all fun i => !(c.v.getLsbD i || c.x.getLsbD i) := by
    rw [zero_all _ m hc.hi (fun i hi => by rw [BitVec.getLsbD_or, hc.subv i hi, hc.subx i hi]; rfl)]
    apply all_same
    intro i hi
    rw [BitVec.getLsbD_or]
  have z2 : (c.v &&& ~~~c.x == 0#64) = (List.range m).all fun i => !(c.v.getLsbD i && !c.x.getLsbD i) := by
    rw [zero_all _ m hc.hi (fun i hi => by rw [BitVec.getLsbD_and, hc.subv i hi]; rfl)]
    apply all_same
    intro i hi
    have e := decide_eq_true (Nat.lt_of_lt_of_le hi hc.hi)
    rw [BitVec.getLsbD_and, BitVec.getLsbD_not, e]; rfl
  unfold truthL
  rw [truth_one, truth_zero, ← z1, ← z2]
  unfold tru
  by_cases h0 : c.v ||| c.x = 0#64
  · have hv : c.v = 0#64 := by
      apply BitVec.eq_of_getLsbD_eq
      intro i hi
      have := congrArg (fun q => q.getLsbD i) h0
      simp only [BitVec.getLsbD_or] at this
      revert this
      cases c.v.getLsbD i <;> cases c.x.getLsbD i <;> simp
    rw [hv] at h0 ⊢
    simp [h0]
  · by_cases h1 : c.v &&& ~~~c.x = 0#64
    · simp [h0, h1]
    · simp [h0, h1]
end Go.Proofs.YtodldcdfdjooaaaGreatDoor
