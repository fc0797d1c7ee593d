/- The reference's Fit of two vectors' states is Fits of the words. -/
import Derived.Test.YtodldcdfdjooaaaGreatDoorRefFit
import Derived.Test.YtodldcdfdjooaaaGreatDoorRefB
import Derived.Test.YtodldcdfdjooaaaGreatDoorChosenP
namespace Go.Proofs.YtodldcdfdjooaaaGreatDoor
open Go Go.RowKit
set_option linter.unusedVariables false
theorem zip_map_range {α : Type} (f g : Nat → α) : ∀ n : Nat, ((List.range n).map f).zip ((List.range n).map g) = (List.range n).map fun i => (f i, g i)
  | 0 => rfl
  | n + 1 => by
    rw [List.range_succ, List.map_append, List.map_append, List.map_append, List.zip_append (by simp), zip_map_range f g n]; rfl
theorem fitL_vl (kind : Int) (a b : Vx) (n : Nat) : fitL kind (vl a n) (vl b n) = (List.range n).all fun i => fitB kind (st a i) (st b i) := by
  unfold fitL vl
  rw [zip_map_range, List.all_map]; rfl
theorem zero_all (M : BitVec 64) (n : Nat) (hn : n ≤ 64) (h : ∀ i, n ≤ i → M.getLsbD i = false) : (M == 0#64) = (List.range n).all fun i => !M.getLsbD i := by
  by_cases e : M = 0#64
  · rw [e]
    have : ((List.range n).all fun i => !(0#64).getLsbD i) = true := by
      apply List.all_eq_true.2; intro i _; simp
    rw [this]; rfl
  · have e1 : (M == 0#64) = false := by simpa using e
    rw [e1]
    symm
    cases hh : (List.range n).all fun i => !M.getLsbD i
    · rfl
    · exfalso
      apply e
      apply BitVec.eq_of_getLsbD_eq
      intro i hi
      by_cases hl : i < n
      · have := List.all_eq_true.1 hh i (List.mem_range.2 hl)
        simpa using this
      · rw [h i (by omega)]; simp
theorem bit_diff (a b : Vx) (i : Nat) : (diff1 a b).getLsbD i = ((a.v.getLsbD i ^^ b.v.getLsbD i) || (a.x.getLsbD i ^^ b.x.getLsbD i)) := by
  unfold diff1; rw [BitVec.getLsbD_or, BitVec.getLsbD_xor, BitVec.getLsbD_xor]
theorem all_same {n : Nat} {f g : Nat → Bool} (h : ∀ i, i < n → f i = g i) : (List.range n).all f = (List.range n).all g := by
  rw [Bool.eq_iff_iff, List.all_eq_true, List.all_eq_true]
  exact ⟨fun k i hi => (h i (List.mem_range.1 hi)) ▸ k i hi, fun k i hi => (h i (List.mem_range.1 hi)).symm ▸ k i hi⟩
theorem fit_vl {n : Nat} {a b : Vx} (ha : a.ok n) (hb : b.ok n) (kind : Int) (hk : kind = 0 ∨ kind = 1 ∨ kind = 2) : fitL kind (vl a n) (vl b n) = vfits a b kind := by
  rw [fitL_vl]
  have hd : ∀ i, n ≤ i → (diff1 a b).getLsbD i = false := by
    intro i hi
    rw [bit_diff, ha.subv i hi, hb.subv i hi, ha.subx i hi, hb.subx i hi]; rfl
  rcases hk with rfl | rfl | rfl
  · show _ = (diff1 a b == 0#64)
    rw [zero_all _ n ha.hi hd]
    apply all_same
    intro i hi
    rw [bit_diff]
    unfold fitB st
    cases a.v.getLsbD i <;> cases a.x.getLsbD i <;> cases b.v.getLsbD i <;> cases b.x.getLsbD i <;> rfl
  · show _ = (diff1 a b &&& ~~~(free1 a ||| free1 b) == 0#64)
    rw [zero_all _ n ha.hi (fun i hi => by rw [BitVec.getLsbD_and, hd i hi]; rfl)]
    apply all_same
    intro i hi
    have h64 : i < 64 := Nat.lt_of_lt_of_le hi ha.hi
    unfold free1
    rw [BitVec.getLsbD_and, bit_diff, BitVec.getLsbD_not, BitVec.getLsbD_or, BitVec.getLsbD_and, BitVec.getLsbD_and, BitVec.getLsbD_not, BitVec.getLsbD_not]
    rw [show decide (i < 64) = true from decide_eq_true h64]
    unfold fitB st
    cases a.v.getLsbD i <;> cases a.x.getLsbD i <;> cases b.v.getLsbD i <;> cases b.x.getLsbD i <;> rfl
  · show _ = (diff1 a b &&& ~~~(a.x ||| b.x) == 0#64)
    rw [zero_all _ n ha.hi (fun i hi => by rw [BitVec.getLsbD_and, hd i hi]; rfl)]
    apply all_same
    intro i hi
    have h64 : i < 64 := Nat.lt_of_lt_of_le hi ha.hi
    rw [BitVec.getLsbD_and, bit_diff, BitVec.getLsbD_not, BitVec.getLsbD_or]
    rw [show decide (i < 64) = true from decide_eq_true h64]
    unfold fitB st
    cases a.v.getLsbD i <;> cases a.x.getLsbD i <;> cases b.v.getLsbD i <;> cases b.x.getLsbD i <;> rfl
end Go.Proofs.YtodldcdfdjooaaaGreatDoor
