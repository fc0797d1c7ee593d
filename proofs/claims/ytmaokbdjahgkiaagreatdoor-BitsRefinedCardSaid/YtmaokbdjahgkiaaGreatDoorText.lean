/- The text of a vector. -/
import Derived.Test.YtmaokbdjahgkiaaGreatDoorApart
import Derived.Lib.AppendStr
import Derived.Laws.IdiomStrings
namespace Go.Proofs.YtmaokbdjahgkiaaGreatDoor
open Go Go.RowKit
set_option linter.unusedVariables false
/-- the state of bit i, as a character -/
def st (a : Vx) (i : Nat) : UInt8 := if a.x.getLsbD i then (if a.v.getLsbD i then 120 else 122) else (if a.v.getLsbD i then 49 else 48)
theorem bit_word (a : BitVec 64) (i : Nat) : a >>> i &&& 1#64 = if a.getLsbD i then 1#64 else 0#64 := by
  apply BitVec.eq_of_getLsbD_eq
  intro j hj
  rw [BitVec.getLsbD_and, BitVec.getLsbD_ushiftRight]
  by_cases h0 : j = 0
  · subst h0; cases h : a.getLsbD i <;> simp
  · have : (1#64).getLsbD j = false := by
      rw [BitVec.getLsbD_one]; simp [h0]
    rw [this, Bool.and_false]
    cases a.getLsbD i <;> simp [this]
set_option maxHeartbeats 400000 in
theorem bit_0 (n : Nat) (a : Vx) (i : Nat) (w : World) (ha : a.ok n) (h2 : n ≤ 64) (hi : i < n) (hv : a.v.getLsbD i = false) (hx : a.x.getLsbD i = false) : Calls Tryz.prog 67 #[.agg #[.int .i64 n, .int .u64 (U a.v), .int .u64 (U a.x)], .int .i64 i] w fun e w' => e = .returned (.int .u8 48) ∧ Below w.heap.size w w' := by
  have e1 : a.x >>> i &&& 1#64 = 0#64 := by rw [bit_word, hx]; rfl
  have e2 : a.v >>> i &&& 1#64 = 0#64 := by rw [bit_word, hv]; rfl
  have u0 : U 0#64 = 0 := by decide
  have u1 : U 1#64 = 1 := by decide
  have hw : IntKind.u64.wrap 2 = 2 := by decide
  have hw0 : IntKind.u64.wrap 0 = 0 := by decide
  have ho : bits .or .u64 0 0 = 0 := by decide
  clear hx hv
  go_enter Tryz.func67, Tryz.ntmps67
  go_wp2_with fail
  refine (valid_ok n a.v a.x _ ha).mono ?_
  rintro e w1 ⟨rfl, hb1⟩
  obtain ⟨hc1, hf1⟩ := bcell hb1
  have z1_0 : w.heap.size < w1.heap.size := bsize hb1 (by first | omega | (simp <;> omega))
  go_wp2_with fail
  go_quiet (fail)
  go_wp2_with fail
  go_ret
  exact ⟨rfl, by (repeat (first | exact Below.refl _ _ | exact Nat.le_refl _ | refine below_drewN ?_ _ | refine Below.drew ?_ | refine Below.alloc ?_ ?_ _ | refine Below.setCell ?_ ?_ _ | refine below_step (by assumption) ?_ ?_)) <;> (first | omega | (simp <;> omega))⟩
set_option maxHeartbeats 400000 in
theorem bit_1 (n : Nat) (a : Vx) (i : Nat) (w : World) (ha : a.ok n) (h2 : n ≤ 64) (hi : i < n) (hv : a.v.getLsbD i = true) (hx : a.x.getLsbD i = false) : Calls Tryz.prog 67 #[.agg #[.int .i64 n, .int .u64 (U a.v), .int .u64 (U a.x)], .int .i64 i] w fun e w' => e = .returned (.int .u8 49) ∧ Below w.heap.size w w' := by
  have e1 : a.x >>> i &&& 1#64 = 0#64 := by rw [bit_word, hx]; rfl
  have e2 : a.v >>> i &&& 1#64 = 1#64 := by rw [bit_word, hv]; rfl
  have u0 : U 0#64 = 0 := by decide
  have u1 : U 1#64 = 1 := by decide
  have hw : IntKind.u64.wrap 2 = 2 := by decide
  have hw0 : IntKind.u64.wrap 0 = 0 := by decide
  have ho : bits .or .u64 0 1 = 1 := by decide
  clear hx hv
  go_enter Tryz.func67, Tryz.ntmps67
  go_wp2_with fail
  refine (valid_ok n a.v a.x _ ha).mono ?_
  rintro e w1 ⟨rfl, hb1⟩
  obtain ⟨hc1, hf1⟩ := bcell hb1
  have z1_0 : w.heap.size < w1.heap.size := bsize hb1 (by first | omega | (simp <;> omega))
  go_wp2_with fail
  go_quiet (fail)
  go_wp2_with fail
  go_ret
  exact ⟨rfl, by (repeat (first | exact Below.refl _ _ | exact Nat.le_refl _ | refine below_drewN ?_ _ | refine Below.drew ?_ | refine Below.alloc ?_ ?_ _ | refine Below.setCell ?_ ?_ _ | refine below_step (by assumption) ?_ ?_)) <;> (first | omega | (simp <;> omega))⟩
set_option maxHeartbeats 400000 in
theorem bit_2 (n : Nat) (a : Vx) (i : Nat) (w : World) (ha : a.ok n) (h2 : n ≤ 64) (hi : i < n) (hv : a.v.getLsbD i = false) (hx : a.x.getLsbD i = true) : Calls Tryz.prog 67 #[.agg #[.int .i64 n, .int .u64 (U a.v), .int .u64 (U a.x)], .int .i64 i] w fun e w' => e = .returned (.int .u8 122) ∧ Below w.heap.size w w' := by
  have e1 : a.x >>> i &&& 1#64 = 1#64 := by rw [bit_word, hx]; rfl
  have e2 : a.v >>> i &&& 1#64 = 0#64 := by rw [bit_word, hv]; rfl
  have u0 : U 0#64 = 0 := by decide
  have u1 : U 1#64 = 1 := by decide
  have hw : IntKind.u64.wrap 2 = 2 := by decide
  have hw0 : IntKind.u64.wrap 0 = 0 := by decide
  have ho : bits .or .u64 2 0 = 2 := by decide
  clear hx hv
  go_enter Tryz.func67, Tryz.ntmps67
  go_wp2_with fail
  refine (valid_ok n a.v a.x _ ha).mono ?_
  rintro e w1 ⟨rfl, hb1⟩
  obtain ⟨hc1, hf1⟩ := bcell hb1
  have z1_0 : w.heap.size < w1.heap.size := bsize hb1 (by first | omega | (simp <;> omega))
  go_wp2_with fail
  go_quiet (fail)
  go_wp2_with fail
  go_ret
  exact ⟨rfl, by (repeat (first | exact Below.refl _ _ | exact Nat.le_refl _ | refine below_drewN ?_ _ | refine Below.drew ?_ | refine Below.alloc ?_ ?_ _ | refine Below.setCell ?_ ?_ _ | refine below_step (by assumption) ?_ ?_)) <;> (first | omega | (simp <;> omega))⟩
set_option maxHeartbeats 400000 in
theorem bit_3 (n : Nat) (a : Vx) (i : Nat) (w : World) (ha : a.ok n) (h2 : n ≤ 64) (hi : i < n) (hv : a.v.getLsbD i = true) (hx : a.x.getLsbD i = true) : Calls Tryz.prog 67 #[.agg #[.int .i64 n, .int .u64 (U a.v), .int .u64 (U a.x)], .int .i64 i] w fun e w' => e = .returned (.int .u8 120) ∧ Below w.heap.size w w' := by
  have e1 : a.x >>> i &&& 1#64 = 1#64 := by rw [bit_word, hx]; rfl
  have e2 : a.v >>> i &&& 1#64 = 1#64 := by rw [bit_word, hv]; rfl
  have u0 : U 0#64 = 0 := by decide
  have u1 : U 1#64 = 1 := by decide
  have hw : IntKind.u64.wrap 2 = 2 := by decide
  have hw0 : IntKind.u64.wrap 0 = 0 := by decide
  have ho : bits .or .u64 2 1 = 3 := by decide
  clear hx hv
  go_enter Tryz.func67, Tryz.ntmps67
  go_wp2_with fail
  refine (valid_ok n a.v a.x _ ha).mono ?_
  rintro e w1 ⟨rfl, hb1⟩
  obtain ⟨hc1, hf1⟩ := bcell hb1
  have z1_0 : w.heap.size < w1.heap.size := bsize hb1 (by first | omega | (simp <;> omega))
  go_wp2_with fail
  go_quiet (fail)
  go_wp2_with fail
  go_ret
  exact ⟨rfl, by (repeat (first | exact Below.refl _ _ | exact Nat.le_refl _ | refine below_drewN ?_ _ | refine Below.drew ?_ | refine Below.alloc ?_ ?_ _ | refine Below.setCell ?_ ?_ _ | refine below_step (by assumption) ?_ ?_)) <;> (first | omega | (simp <;> omega))⟩
theorem bit_ok (n : Nat) (a : Vx) (i : Nat) (w : World) (ha : a.ok n) (hi : i < n) : Calls Tryz.prog 67 #[.agg #[.int .i64 n, .int .u64 (U a.v), .int .u64 (U a.x)], .int .i64 i] w fun e w' => e = .returned (.int .u8 (st a i).toNat) ∧ Below w.heap.size w w' := by
  cases hv : a.v.getLsbD i <;> cases hx : a.x.getLsbD i
  · simpa [st, hv, hx] using bit_0 n a i w ha ha.hi hi hv hx
  · simpa [st, hv, hx] using bit_2 n a i w ha ha.hi hi hv hx
  · simpa [st, hv, hx] using bit_1 n a i w ha ha.hi hi hv hx
  · simpa [st, hv, hx] using bit_3 n a i w ha ha.hi hi hv hx
/-- the states of the highest j bits, the highest one first -/
def hib (n : Nat) (a : Vx) (j : Nat) : List UInt8 := (List.range j).map fun k => st a (n - 1 - k)
theorem hib_succ (n : Nat) (a : Vx) (j : Nat) : hib n a (j + 1) = hib n a j ++ [st a (n - 1 - j)] := by
  unfold hib; rw [List.range_succ, List.map_append]; rfl
theorem hib_len (n : Nat) (a : Vx) (j : Nat) : (hib n a j).length = j := by unfold hib; simp
def txt (n : Nat) (a : Vx) (j : Nat) : List UInt8 := Lib.itoa n ++ [39, 98] ++ hib n a j
theorem info5 : (Tryz.prog.info? 5).map (fun i => (i.zero, i.size, i.bytes)) = some (some (.int .u8 0), 1, 1) := by kernel_rfl
end Go.Proofs.YtmaokbdjahgkiaaGreatDoor
