/- The operations of package bits on vectors that are valid: what they return. -/
import Derived.Test.YtdpmojkpfnkcdaaDoorBit
namespace Go.Proofs.YtdpmojkpfnkcdaaDoor
open Go Go.RowKit
set_option linter.unusedVariables false
set_option maxHeartbeats 400000 in
theorem true_0 (n : Nat) (a : Vx) (w : World) (ha : a.ok n) (h0 : (a.v ||| a.x == 0#64) = true) : Calls Tryd.prog 15 #[.agg #[.int .i64 n, .int .u64 (U a.v), .int .u64 (U a.x)]] w fun e w' => e = .returned (.int .i64 0) ∧ Below w.heap.size w w' := by
  go_enter Tryd.func15, Tryd.ntmps15
  go_wp2_with fail
  refine (valid_ok n a.v a.x _ ha).mono ?_
  rintro e w1 ⟨rfl, hb1⟩
  obtain ⟨hc1, hf1⟩ := bcell hb1
  have z1_0 : w.heap.size < w1.heap.size := bsize hb1 (by first | omega | (simp <;> omega))
  go_wp2_with fail
  go_ret
  exact ⟨rfl, by (repeat (first | exact Below.refl _ _ | exact Nat.le_refl _ | refine below_drewN ?_ _ | refine Below.drew ?_ | refine Below.alloc ?_ ?_ _ | refine Below.setCell ?_ ?_ _ | refine below_step (by assumption) ?_ ?_)) <;> (first | omega | (simp <;> omega))⟩
set_option maxHeartbeats 400000 in
theorem true_1 (n : Nat) (a : Vx) (w : World) (ha : a.ok n) (h0 : (a.v ||| a.x == 0#64) = false) (h1 : (a.v &&& ~~~a.x != 0#64) = true) : Calls Tryd.prog 15 #[.agg #[.int .i64 n, .int .u64 (U a.v), .int .u64 (U a.x)]] w fun e w' => e = .returned (.int .i64 1) ∧ Below w.heap.size w w' := by
  go_enter Tryd.func15, Tryd.ntmps15
  go_wp2_with fail
  refine (valid_ok n a.v a.x _ ha).mono ?_
  rintro e w1 ⟨rfl, hb1⟩
  obtain ⟨hc1, hf1⟩ := bcell hb1
  have z1_0 : w.heap.size < w1.heap.size := bsize hb1 (by first | omega | (simp <;> omega))
  go_wp2_with fail
  go_ret
  exact ⟨rfl, by (repeat (first | exact Below.refl _ _ | exact Nat.le_refl _ | refine below_drewN ?_ _ | refine Below.drew ?_ | refine Below.alloc ?_ ?_ _ | refine Below.setCell ?_ ?_ _ | refine below_step (by assumption) ?_ ?_)) <;> (first | omega | (simp <;> omega))⟩
set_option maxHeartbeats 400000 in
theorem true_m (n : Nat) (a : Vx) (w : World) (ha : a.ok n) (h0 : (a.v ||| a.x == 0#64) = false) (h1 : (a.v &&& ~~~a.x != 0#64) = false) : Calls Tryd.prog 15 #[.agg #[.int .i64 n, .int .u64 (U a.v), .int .u64 (U a.x)]] w fun e w' => e = .returned (.int .i64 (-1)) ∧ Below w.heap.size w w' := by
  go_enter Tryd.func15, Tryd.ntmps15
  go_wp2_with fail
  refine (valid_ok n a.v a.x _ ha).mono ?_
  rintro e w1 ⟨rfl, hb1⟩
  obtain ⟨hc1, hf1⟩ := bcell hb1
  have z1_0 : w.heap.size < w1.heap.size := bsize hb1 (by first | omega | (simp <;> omega))
  go_wp2_with fail
  go_ret
  exact ⟨rfl, by (repeat (first | exact Below.refl _ _ | exact Nat.le_refl _ | refine below_drewN ?_ _ | refine Below.drew ?_ | refine Below.alloc ?_ ?_ _ | refine Below.setCell ?_ ?_ _ | refine below_step (by assumption) ?_ ?_)) <;> (first | omega | (simp <;> omega))⟩
theorem true_ok (n : Nat) (a : Vx) (w : World) (ha : a.ok n) : Calls Tryd.prog 15 #[.agg #[.int .i64 n, .int .u64 (U a.v), .int .u64 (U a.x)]] w fun e w' => e = .returned (.int .i64 (tru a)) ∧ Below w.heap.size w w' := by
  unfold tru
  by_cases h0 : a.v ||| a.x = 0#64
  · rw [if_pos h0]; exact true_0 n a w ha (by simpa using h0)
  · rw [if_neg h0]
    by_cases h1 : a.v &&& ~~~a.x = 0#64
    · rw [if_pos h1]; exact true_m n a w ha (by simpa using h0) (by simpa using h1)
    · rw [if_neg h1]; exact true_1 n a w ha (by simpa using h0) (by simpa using h1)
def vlnot (a : Vx) : Vx := vnot 1 (redor a)
def redand (n : Nat) (a : Vx) : Vx := vnot 1 (redor (vnot n a))
end Go.Proofs.YtdpmojkpfnkcdaaDoor
